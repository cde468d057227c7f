package xml

import (
	"regexp"
	"strings"
	"unicode/utf8"

	"heliograph/api"
)

// A second reading of the document, by patterns over the whole input, which shares nothing with the parser.
var (
	wholeTag  = regexp.MustCompile(`(?s)^<(?:[^>'"]|'[^']*'|"[^"]*")*>`)
	opening   = regexp.MustCompile(`^<([A-Za-z_][A-Za-z0-9_.:-]{0,31})((?:[ \t\r\n]+[A-Za-z_][A-Za-z0-9_.:-]{0,31}[ \t\r\n]*=[ \t\r\n]*(?:'[^'<]*'|"[^"<]*"))*)[ \t\r\n]*(/?)>$`)
	attribute = regexp.MustCompile(`[ \t\r\n]+([A-Za-z_][A-Za-z0-9_.:-]*)[ \t\r\n]*=[ \t\r\n]*(?:'([^']*)'|"([^"]*)")`)
	ending    = regexp.MustCompile(`^</([A-Za-z_][A-Za-z0-9_.:-]{0,31})[ \t\r\n]*>$`)
	declared  = regexp.MustCompile(`(?s)^<\?xml[ \t\r\n].*\?>$`)
	blank     = regexp.MustCompile(`^[ \t\r\n]*$`)
	wrongChar = regexp.MustCompile(`[\x00-\x08\x0b\x0c\x0e-\x1f\x{fffe}\x{ffff}]`)
	rightAmp  = regexp.MustCompile(`&(?:amp|lt|gt|apos|quot);`)
)

type model struct {
	told []api.Token
	err  api.Errno
	left int
	open []string
}

func modelOf(s string) *model {
	m := &model{}
	first := true
	for s != "" && m.err == api.OK {
		if s[0] != '<' {
			s = m.text(s)
		} else {
			s = m.tag(s, first)
		}
		first = false
	}
	return m
}

// text answers what is behind the text that s begins with.
func (m *model) text(s string) string {
	n := strings.IndexByte(s, '<')
	switch {
	case n < 0 && len(s) > 512 || n > 512:
		m.err = api.ErrLong
		return ""
	case n < 0:
		m.left = len(s)
		return ""
	}
	plain, ok := modelPlain(s[:n])
	switch {
	case !ok || len(m.open) == 0 && !blank.MatchString(s[:n]):
		m.err = api.ErrXml
	case len(m.open) > 0:
		m.told = append(m.told, chars(plain))
	}
	return s[n:]
}

// tag answers what is behind the tag that s begins with.
func (m *model) tag(s string, first bool) string {
	n := len(wholeTag.FindString(s))
	switch {
	case n == 0 && len(s) > 2048 || n > 2048:
		m.err = api.ErrLong
		return ""
	case n == 0:
		m.left = len(s)
		return ""
	}
	tag := s[:n]
	switch {
	case !modelChars(tag):
		m.err = api.ErrXml
	case first && declared.MatchString(tag):
	case tag[1] == '!' || tag[1] == '?':
		m.err = api.ErrBarred
	case tag[1] == '/':
		m.ending(tag)
	default:
		m.beginning(tag)
	}
	return s[n:]
}

func (m *model) beginning(tag string) {
	x := opening.FindStringSubmatch(tag)
	if x == nil {
		m.err = api.ErrXml
		return
	}
	t := begin(x[1])
	names := map[string]bool{}
	for _, a := range attribute.FindAllStringSubmatch(x[2], -1) {
		plain, ok := modelPlain(a[2] + a[3])
		if !ok {
			m.err = api.ErrXml
			return
		}
		t.Attrs = append(t.Attrs, api.Attr{Name: a[1], Value: plain})
		names[a[1]] = true
	}
	switch {
	case len(m.open) == 0 && len(m.told) > 0:
		m.err = api.ErrXml
	case len(t.Attrs) > 8:
		m.err = api.ErrLong
	case len(names) < len(t.Attrs):
		m.err = api.ErrXml
	case len(m.open) == 8:
		m.err = api.ErrLong
	case x[3] == "/":
		m.told = append(m.told, t, end(t.Name))
	default:
		m.told = append(m.told, t)
		m.open = append(m.open, t.Name)
	}
}

func (m *model) ending(tag string) {
	x := ending.FindStringSubmatch(tag)
	n := len(m.open) - 1
	if x == nil || n < 0 || m.open[n] != x[1] {
		m.err = api.ErrXml
		return
	}
	m.open = m.open[:n]
	m.told = append(m.told, end(x[1]))
}

func modelChars(s string) bool { return utf8.ValidString(s) && !wrongChar.MatchString(s) }

func modelPlain(s string) (string, bool) {
	if !modelChars(s) || strings.Contains(rightAmp.ReplaceAllString(s, ""), "&") {
		return "", false
	}
	return strings.NewReplacer("&amp;", "&", "&lt;", "<", "&gt;", ">", "&apos;", "'", "&quot;", "\"").Replace(s), true
}
