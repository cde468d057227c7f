package xml

import (
	"strings"

	"heliograph/api"
	"heliograph/text"
)

// beginning is what a tag says that begins an element; ends: it ends it too.
type beginning struct {
	name  string
	attrs []api.Attr
	ends  bool
}

// reader goes through a tag; what it can't read it gives up.
type reader struct{ rest string }

func readBeginning(s string) beginning {
	r := reader{s}
	r.must("<")
	b := beginning{name: r.name()}
	for r.blanks() && !r.atEnd() {
		b.attrs = append(b.attrs, r.attr())
	}
	b.ends = r.may("/")
	r.must(">")
	return b
}

func readEnding(s string) string {
	r := reader{s}
	r.must("</")
	name := r.name()
	r.blanks()
	r.must(">")
	return name
}

// atEnd tells whether no attribute can come any more.
func (r *reader) atEnd() bool {
	return strings.HasPrefix(r.rest, "/") || strings.HasPrefix(r.rest, ">")
}

func (r *reader) may(s string) bool {
	rest, ok := strings.CutPrefix(r.rest, s)
	r.rest = rest
	return ok
}

func (r *reader) must(s string) {
	if !r.may(s) {
		giveUp(api.ErrXml)
	}
}

// blanks passes blanks, and tells whether there were any.
func (r *reader) blanks() bool {
	n := 0
passing:
	for n < len(r.rest) {
		switch {
		case text.Space(r.rest[n : n+1]):
			n++
		default:
			break passing
		}
	}
	r.rest = r.rest[n:]
	return n > 0
}

// name is the longest one here; of a name that is too long the rest stays, and nothing may follow a name that looks so.
func (r *reader) name() string {
	n := 0
	for n < len(r.rest) && text.Name(r.rest[:n+1]) {
		n++
	}
	if n == 0 {
		giveUp(api.ErrXml)
	}
	name := r.rest[:n]
	r.rest = r.rest[n:]
	return name
}

func (r *reader) attr() api.Attr {
	name := r.name()
	r.blanks()
	r.must("=")
	r.blanks()
	return api.Attr{Name: name, Value: r.value()}
}

func (r *reader) value() string {
	quote := "'"
	if !r.may(quote) {
		quote = `"`
		r.must(quote)
	}
	said, rest, ok := strings.Cut(r.rest, quote)
	plain, err := text.Unescape(said)
	if !ok || err != api.OK {
		giveUp(api.ErrXml)
	}
	r.rest = rest
	return plain
}
