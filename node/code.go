package node

import (
	"strconv"
	"strings"

	"heliograph/api"
)

// The words for what is one of two.
const (
	collectionWord = "c"
	leafWord       = "l"
	pendingWord    = "p"
	settledWord    = "s"
)

// Encode is a node's text.
func Encode(n api.Node) (string, api.Errno) {
	if !Right(n) {
		return "", api.ErrForm
	}
	var b strings.Builder
	for _, word := range words(n) {
		b.WriteString(strconv.Itoa(len(word)) + ":" + word)
	}
	return b.String(), api.OK
}

func words(n api.Node) []string {
	l := []string{n.Name, either(n.Collection, collectionWord, leafWord), strconv.Itoa(int(n.Access)), strconv.Itoa(n.Max), n.Parent}
	l = append(l, strconv.Itoa(len(n.Affs)))
	for _, a := range n.Affs {
		l = append(l, a.Jid, strconv.Itoa(int(a.Role)))
	}
	l = append(l, strconv.Itoa(len(n.Subs)))
	for _, s := range n.Subs {
		l = append(l, s.Jid, either(s.Pending, pendingWord, settledWord), strconv.Itoa(s.Depth))
	}
	l = append(l, strconv.Itoa(len(n.Items)))
	for _, i := range n.Items {
		l = append(l, i.Id, i.Publisher, i.Text)
	}
	return l
}

func either(is bool, yes, no string) string {
	if is {
		return yes
	}
	return no
}

// Decode is the node that a text is of.
func Decode(s string) (api.Node, api.Errno) {
	n, ok := read(s)
	if !ok || !Right(n) {
		return api.Node{}, api.ErrForm
	}
	return n, api.OK
}

// reader goes through a text word by word; what it can't read it gives up.
type reader struct{ rest string }

// stop is what a reader panics with that can't go on.
type stop struct{}

func giveUp() { panic(stop{}) }

// read is the one place where a reading that was given up ends. False: the text is not of a node's form.
func read(s string) (n api.Node, ok bool) {
	defer func() {
		switch x := recover().(type) {
		case nil:
		case stop:
			n, ok = api.Node{}, false
		default:
			panic(x)
		}
	}()
	r := reader{s}
	n = r.node()
	return n, r.rest == ""
}

func (r *reader) node() api.Node {
	return api.Node{
		Name:       r.word(),
		Collection: r.either(collectionWord, leafWord),
		Access:     api.Access(r.number(int(api.Whitelist))),
		Max:        r.number(api.MaxItems),
		Parent:     r.word(),
		Affs:       several(r, api.MaxPeople, r.aff),
		Subs:       several(r, api.MaxPeople, r.sub),
		Items:      several(r, api.MaxItems, r.item),
	}
}

func (r *reader) aff() api.Aff {
	return api.Aff{Jid: r.word(), Role: api.Role(r.number(int(api.Owner)))}
}

func (r *reader) sub() api.Sub {
	return api.Sub{Jid: r.word(), Pending: r.either(pendingWord, settledWord), Depth: r.number(maxDepth)}
}

func (r *reader) item() api.Item {
	return api.Item{Id: r.word(), Publisher: r.word(), Text: r.word()}
}

// several are as many as the next word says.
func several[T any](r *reader, most int, one func() T) []T {
	var l []T
	for range r.number(most) {
		l = append(l, one())
	}
	return l
}

func (r *reader) word() string {
	length, rest, ok := strings.Cut(r.rest, ":")
	if !ok {
		giveUp()
	}
	n := digits(length, len(rest))
	r.rest = rest[n:]
	return rest[:n]
}

func (r *reader) number(most int) int { return digits(r.word(), most) }

func (r *reader) either(yes, no string) bool {
	switch r.word() {
	case yes:
		return true
	case no:
		return false
	}
	giveUp()
	return false
}

// digits is a number from 0 to most. That it is written so again rules out signs and noughts ahead.
func digits(s string, most int) int {
	n, err := strconv.Atoi(s)
	if err != nil || n < 0 || n > most || strconv.Itoa(n) != s {
		giveUp()
	}
	return n
}
