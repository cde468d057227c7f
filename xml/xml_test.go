package xml

import (
	"fmt"
	"math/rand"
	"reflect"
	"slices"
	"strings"
	"testing"

	"heliograph/api"
)

func begin(name string, pairs ...string) api.Token {
	t := api.Token{Kind: api.Begin, Name: name}
	for i := 0; i < len(pairs); i += 2 {
		t.Attrs = append(t.Attrs, api.Attr{Name: pairs[i], Value: pairs[i+1]})
	}
	return t
}

func end(name string) api.Token   { return api.Token{Kind: api.End, Name: name} }
func chars(text string) api.Token { return api.Token{Kind: api.Chars, Text: text} }

func short(s string) string {
	if len(s) > 80 {
		return fmt.Sprintf("%q .. (%d bytes)", s[:80], len(s))
	}
	return fmt.Sprintf("%q", s)
}

// sameTokens takes a list that is nil and an empty one for the same.
func sameTokens(a, b []api.Token) bool {
	return slices.EqualFunc(a, b, func(x, y api.Token) bool {
		return x.Kind == y.Kind && x.Name == y.Name && x.Text == y.Text && slices.Equal(x.Attrs, y.Attrs)
	})
}

// wantFed feeds s to a new parser, and asks what it tells, and that the error stays.
func wantFed(t *testing.T, s string, err api.Errno, want ...api.Token) *Parser {
	t.Helper()
	p := New()
	l, e := p.Feed([]byte(s))
	if !sameTokens(l, want) || e != err {
		t.Errorf("%s: %s, error %d; want %s, error %d", short(s), short(fmt.Sprint(l)), e, short(fmt.Sprint(want)), err)
	}
	if p.Broken() != err {
		t.Errorf("%s: Broken %d, want %d", short(s), p.Broken(), err)
	}
	return p
}

// wantState asks how many elements are open, and how many bytes wait.
func wantState(t *testing.T, p *Parser, depth, left int) {
	t.Helper()
	if p.Depth() != depth || p.Left() != left {
		t.Errorf("Depth %d, Left %d; want %d, %d", p.Depth(), p.Left(), depth, left)
	}
}

// P3.1, P3.3
func TestNew(t *testing.T) {
	p := New()
	wantState(t, p, 0, 0)
	if p.Broken() != api.OK {
		t.Error(p.Broken())
	}
	for _, b := range [][]byte{nil, {}} {
		if l, e := p.Feed(b); len(l) != 0 || e != api.OK {
			t.Error(l, e)
		}
	}
	wantState(t, p, 0, 0)
}

// P1, P3.1, P3.3: Feed has an error, and nothing breaks a parser that is nil, a Feed neither.
func TestNilParser(t *testing.T) {
	var p *Parser
	wantNil := func() {
		wantState(t, p, 0, 0)
		if p.Broken() != api.OK || p.Fork() != nil {
			t.Error(p.Broken(), p.Fork())
		}
	}
	wantNil()
	for _, b := range [][]byte{nil, []byte("<a>"), []byte("<!>")} {
		if l, e := p.Feed(b); l != nil || e != api.ErrNil {
			t.Error(l, e)
		}
		wantNil()
	}
}

// The document's example.
func TestExample(t *testing.T) {
	p := wantFed(t, "<a b='1'>x", api.OK, begin("a", "b", "1"))
	wantState(t, p, 1, 1)
	if l, e := p.Feed([]byte("</a>")); !sameTokens(l, []api.Token{chars("x"), end("a")}) || e != api.OK {
		t.Error(l, e)
	}
	wantState(t, p, 0, 0)
}

// P3.1: what is broken stays so, and takes nothing any more.
func TestBrokenStays(t *testing.T) {
	for s, err := range map[string]api.Errno{
		"<a><b>x</a><c>":                        api.ErrXml,
		"<a><b>x<!-- --><c>":                    api.ErrBarred,
		"<a><b>x<c" + strings.Repeat(" ", 2047): api.ErrLong,
	} {
		p := wantFed(t, s, err, begin("a"), begin("b"), chars("x"))
		wantState(t, p, 2, 0)
		for _, b := range []string{"", "</b>", "<c>", ">", "<!x>", strings.Repeat("x", 3000)} {
			if l, e := p.Feed([]byte(b)); l != nil || e != err {
				t.Errorf("%s: behind it %s: %v, error %d", short(s), short(b), l, e)
			}
			wantState(t, p, 2, 0)
			if f := p.Fork(); f.Broken() != err {
				t.Errorf("%s: a Fork's error %d", short(s), f.Broken())
			}
		}
	}
}

// P3.1: a tag of 2048 bytes may be, and waits until it is whole; one of more breaks it.
func TestLongTags(t *testing.T) {
	blanks := strings.Repeat(" ", 2045)
	value := strings.Repeat("v", 2039)
	wantFed(t, "<a"+blanks+">", api.OK, begin("a"))
	wantFed(t, "<a b=\""+value+"\"/>", api.OK, begin("a", "b", value), end("a"))
	wantFed(t, "<a"+blanks+" >", api.ErrLong)
	wantFed(t, "<a b=\""+value+"v\"/>", api.ErrLong)
	wantFed(t, "<a></a"+blanks+">", api.ErrLong, begin("a"))
	wantFed(t, "<?xml"+blanks+">", api.ErrLong)
	wantFed(t, "<!"+blanks+">", api.ErrBarred)
	wantFed(t, "<!"+blanks+" ", api.OK)
	wantFed(t, "<!"+blanks+" >", api.ErrLong)
	for _, c := range []string{" ", "'", "x", "\xff"} {
		p := wantFed(t, "<a"+blanks+c, api.OK)
		wantState(t, p, 0, 2048)
		if l, e := p.Feed([]byte(c)); len(l) != 0 || e != api.ErrLong {
			t.Errorf("%q: %v, error %d", c, l, e)
		}
		wantState(t, p, 0, 0)
	}
}

// P3.1: a text of MaxText bytes may be, as it stands, not as it is said.
func TestLongTexts(t *testing.T) {
	full := strings.Repeat("x", api.MaxText)
	p := wantFed(t, "<a>"+full, api.OK, begin("a"))
	wantState(t, p, 1, api.MaxText)
	if l, e := p.Feed([]byte("<")); !sameTokens(l, []api.Token{chars(full)}) || e != api.OK {
		t.Errorf("%v, error %d", l, e)
	}
	wantState(t, p, 1, 1)
	wantFed(t, "<a>"+full+"x", api.ErrLong, begin("a"))
	wantFed(t, "<a>"+full+"\xff", api.ErrLong, begin("a"))
	wantFed(t, "<a>"+strings.Repeat("&lt;", 128)+"</a>", api.OK, begin("a"), chars(strings.Repeat("<", 128)), end("a"))
	wantFed(t, "<a>"+strings.Repeat("&lt;", 128)+"&", api.ErrLong, begin("a"))
	wantFed(t, strings.Repeat("\n", api.MaxText)+"<a>", api.OK, begin("a"))
	wantFed(t, strings.Repeat("\n", api.MaxText+1), api.ErrLong)
	wantFed(t, full, api.OK)
	wantFed(t, full+"x", api.ErrLong)
	wantFed(t, "<a/>"+full+" ", api.ErrLong, begin("a"), end("a"))
}

// P3.2: texts.
func TestTexts(t *testing.T) {
	for said, plain := range map[string]string{
		"x": "x", " ": " ", "\t\r\n": "\t\r\n", ">": ">", "'\"=/": "'\"=/", "]]>": "]]>", "\u00e9\U0001F600\ufffd": "\u00e9\U0001F600\ufffd",
		"&amp;&lt;&gt;&apos;&quot;": "&<>'\"", "&amp;lt;": "&lt;", "a&amp;": "a&", "\x7f": "\x7f",
	} {
		wantFed(t, "<a>"+said+"<b/>"+said+"</a>", api.OK, begin("a"), chars(plain), begin("b"), end("b"), chars(plain), end("a"))
	}
	for _, said := range []string{"&", "&;", "&lt", "&nbsp;", "&#65;", "&LT;", "& lt;", "\x00", "\x01", "\x1f", "\xff", "\xc3", "\xed\xa0\x80", "\ufffe", "\uffff", "\xc0\x80"} {
		wantFed(t, "<a>"+said, api.OK, begin("a"))
		wantFed(t, "<a>"+said+"<", api.ErrXml, begin("a"))
		wantFed(t, "<a>x"+said+"x</a>", api.ErrXml, begin("a"))
		wantFed(t, said+"<", api.ErrXml)
	}
}

// P3.2: while no element is open only blanks may be there, and are not told.
func TestTextsOutside(t *testing.T) {
	wantFed(t, " \t\r\n<a/> \t\r\n<", api.OK, begin("a"), end("a"))
	for _, s := range []string{"x", " x ", "&lt;", "&amp;", ">", "\u00a0", "\u2003", "\v", "\ufeff"} {
		p := wantFed(t, s, api.OK)
		wantState(t, p, 0, len(s))
		wantFed(t, s+"<a>", api.ErrXml)
		wantFed(t, "<a/>"+s, api.OK, begin("a"), end("a"))
		wantFed(t, "<a/>"+s+"<", api.ErrXml, begin("a"), end("a"))
	}
}

// P3.2: the first piece may be a declaration.
func TestDeclaration(t *testing.T) {
	for _, s := range []string{"<?xml version='1.0'?>", "<?xml ?>", "<?xml\t?>", "<?xml\n?>", "<?xml\r?>", "<?xml version=\"1.0\" encoding='x>y'?>", "<?xml <?>", "<?xml &x ??>", "<?xml \u00e9?>"} {
		wantFed(t, s, api.OK)
		wantFed(t, s+"<a>", api.OK, begin("a"))
		wantFed(t, s+s, api.ErrBarred)
		wantFed(t, s+"\n"+s, api.ErrBarred)
		wantFed(t, " "+s, api.ErrBarred)
		wantFed(t, "<a>"+s, api.ErrBarred, begin("a"))
		wantFed(t, "<a/>"+s, api.ErrBarred, begin("a"), end("a"))
		wantFed(t, s+"x<", api.ErrXml)
	}
	for _, s := range []string{"<?xml?>", "<?xmlx ?>", "<?XML ?>", "<?xm ?>", "<? xml ?>", "<?xml >", "<?xml ? >", "<?xml version='1.0'>", "<?xml\u00a0?>", "<?>", "<??>", "<?y?>", "<?xml>"} {
		wantFed(t, s, api.ErrBarred)
	}
	wantFed(t, "<?xml\v?>", api.ErrXml)
	wantFed(t, "<?xml \x00?>", api.ErrXml)
	wantFed(t, "<?xml \xff?>", api.ErrXml)
	wantFed(t, "<?xml version='1.0?>", api.OK)
}

// P3.2: comments, sections and instructions may not be anywhere.
func TestBarred(t *testing.T) {
	for _, s := range []string{"<!>", "<!-->", "<!-- x -->", "<![CDATA[x]]>", "<!DOCTYPE a>", "<!DOCTYPE a '>' >", "<?x?>", "<!<>", "<!&>"} {
		wantFed(t, s, api.ErrBarred)
		wantFed(t, "<a>"+s, api.ErrBarred, begin("a"))
		wantFed(t, "<a>x"+s, api.ErrBarred, begin("a"), chars("x"))
		wantFed(t, "<a/>"+s, api.ErrBarred, begin("a"), end("a"))
		wantFed(t, s[:len(s)-1]+"\x01>", api.ErrXml)
		wantFed(t, s[:len(s)-1]+"\xff>", api.ErrXml)
	}
	wantFed(t, "<!-- it's -->", api.OK)
	wantFed(t, "<!-- it's -->'>", api.ErrBarred)
}

// P3.2: what may be a beginning.
func TestBeginnings(t *testing.T) {
	name := strings.Repeat("n", api.MaxName)
	for s, want := range map[string]api.Token{
		"<a>": begin("a"), "<a >": begin("a"), "<a\t\r\n >": begin("a"), "<_>": begin("_"), "<A9-_.:>": begin("A9-_.:"), "<" + name + ">": begin(name),
		"<a b='1'>": begin("a", "b", "1"), "<a b=\"1\">": begin("a", "b", "1"), "<a\nb\t=\r'1' >": begin("a", "b", "1"), "<a b='1' c='2'>": begin("a", "b", "1", "c", "2"),
		"<a b='1'\n\n c=\"2\"\t>": begin("a", "b", "1", "c", "2"), "<a b=''>": begin("a", "b", ""), "<a b='>'>": begin("a", "b", ">"), "<a b='\"'>": begin("a", "b", "\""),
		"<a b=\"'\">": begin("a", "b", "'"), "<a b='/>' c='='>": begin("a", "b", "/>", "c", "="), "<a b='&lt;&amp;&gt;&apos;&quot;'>": begin("a", "b", "<&>'\""),
		"<a b=' \n\t'>": begin("a", "b", " \n\t"), "<a b='\u00e9'>": begin("a", "b", "\u00e9"), "<a a='1'>": begin("a", "a", "1"), "<a b='1' B='1'>": begin("a", "b", "1", "B", "1"),
		"<a " + name + "='1'>": begin("a", name, "1"),
	} {
		p := wantFed(t, s, api.OK, want)
		wantState(t, p, 1, 0)
		empty := s[:len(s)-1] + "/>"
		p = wantFed(t, empty, api.OK, want, end(want.Name))
		wantState(t, p, 0, 0)
		p = wantFed(t, "<z>"+s, api.OK, begin("z"), want)
		wantState(t, p, 2, 0)
	}
}

// P3.2: what may not be one.
func TestWrongBeginnings(t *testing.T) {
	name := strings.Repeat("n", api.MaxName+1)
	for _, s := range []string{
		"<>", "< >", "< a>", "<9>", "<->", "<.a>", "<:a>", "<\u00e9>", "<a\u00e9>", "<a&>", "<a;>", "<" + name + ">", "<a<>", "<<a>", "<a<b>", "<=>", "<a=>", "<a='1'>", "<a'1'>", "<'a'>", "<a\"\">",
		"<a b>", "<a b=>", "<a b= >", "<a b=1>", "<a ='1'>", "<a '1'>", "<a b=='1'>", "<a b='1''2'>", "<a b='1'c='2'>", "<a b='1'\"2\">", "<a b='1',c='2'>", "<a b='1'/c='2'>", "<a b b='1'>", "<a 9='1'>",
		"<a " + name + "='1'>", "<a b='<'>", "<a b='&'>", "<a b='&x;'>", "<a b='&#60;'>", "<a b='1&lt'>", "<a b='\x01'>", "<a b='\xff'>", "<a \x0b b='1'>", "<a\u00a0b='1'>", "<a\x00>", "<\xff>",
		"</>", "</ >", "< />", "<//>", "<a//>", "<a/ >", "<a/ b='1'>", "<a / >", "<a/b>", "<a b='1'//>", "<a b/>",
	} {
		wantFed(t, s, api.ErrXml)
		wantFed(t, "<z>"+s, api.ErrXml, begin("z"))
	}
	for _, s := range []string{"<", "<a", "<a b='>", "<a b='>\">", "<a b=\">'>", "<a '>"} {
		p := wantFed(t, s, api.OK)
		wantState(t, p, 0, len(s))
	}
}

func attrs(n int) (string, []string) {
	s, pairs := "", []string{}
	for i := range n {
		s += fmt.Sprintf(" a%d='%d'", i, i)
		pairs = append(pairs, fmt.Sprintf("a%d", i), fmt.Sprint(i))
	}
	return s, pairs
}

// P3.2: of a beginning's errors the one that is named first.
func TestErrorsOfBeginnings(t *testing.T) {
	most, pairs := attrs(api.MaxAttrs)
	more, _ := attrs(api.MaxAttrs + 1)
	deep := strings.Repeat("<a>", api.MaxDepth)
	opened := slices.Repeat([]api.Token{begin("a")}, api.MaxDepth)
	root := []api.Token{begin("a"), end("a")}

	wantFed(t, "<a"+most+">", api.OK, begin("a", pairs...))
	wantFed(t, "<a"+more+">", api.ErrLong)
	wantFed(t, "<a"+more+" a0='1'>", api.ErrLong)
	wantFed(t, "<a"+more+"x>", api.ErrXml)
	wantFed(t, "<a"+more+" b='<'>", api.ErrXml)
	wantFed(t, "<a b='1' b='2'>", api.ErrXml)
	wantFed(t, "<a b='1' c='2' b='1'/>", api.ErrXml)

	wantFed(t, "<a/><a>", api.ErrXml, root...)
	wantFed(t, "<a></a><b/>", api.ErrXml, root...)
	wantFed(t, "<a/>\n<a"+more+">", api.ErrXml, root...)

	p := wantFed(t, deep, api.OK, opened...)
	wantState(t, p, api.MaxDepth, 0)
	wantFed(t, deep+"<a>", api.ErrLong, opened...)
	wantFed(t, deep+"<a/>", api.ErrLong, opened...)
	wantFed(t, deep+"<a b='1' b='1'>", api.ErrXml, opened...)
	wantFed(t, deep+"<a"+more+">", api.ErrLong, opened...)
	wantFed(t, deep+"<9>", api.ErrXml, opened...)
	p = wantFed(t, deep+"</a><b/><a>x", api.OK, append(slices.Clone(opened), end("a"), begin("b"), end("b"), begin("a"))...)
	wantState(t, p, api.MaxDepth, 1)
}

// P3.2: endings.
func TestEndings(t *testing.T) {
	for _, s := range []string{"</a>", "</a >", "</a\t\r\n >"} {
		p := wantFed(t, "<a>"+s, api.OK, begin("a"), end("a"))
		wantState(t, p, 0, 0)
		p = wantFed(t, "<b><a>"+s, api.OK, begin("b"), begin("a"), end("a"))
		wantState(t, p, 1, 0)
		wantFed(t, s, api.ErrXml)
		wantFed(t, "<a/>"+s, api.ErrXml, begin("a"), end("a"))
		wantFed(t, "<a><b>"+s, api.ErrXml, begin("a"), begin("b"))
		wantFed(t, "<A>"+s, api.ErrXml, begin("A"))
		wantFed(t, "<aa>"+s, api.ErrXml, begin("aa"))
	}
	for _, s := range []string{"</>", "</ a>", "< /a>", "</a/>", "</a b='1'>", "</a b>", "</a a>", "</a'>'>", "<//a>", "</9>", "</a\x01>", "</a<>", "</a&>", "</\u00e9>", "</aa>", "</a\u00a0>"} {
		wantFed(t, "<a>"+s, api.ErrXml, begin("a"))
	}
}

// P3.3, P4: a Fork stands the same, and goes its own way.
func TestFork(t *testing.T) {
	for _, s := range []string{"", "<", "<a>", "<a><b>x&am", "<a><b c='>", "<a><b c=\"x'", "<a/>", "<?xml ?>", " ", "<?xml "} {
		for _, rest := range []string{"p;</b></a>", "'/></b></a>", "x'/>\"/></a>", "<a>", "</a>", "<?xml ?>", "?><a>", "a>", "<!>"} {
			whole := New()
			want, err := whole.Feed([]byte(s + rest))
			p := New()
			first, _ := p.Feed([]byte(s))
			f := p.Fork()
			depth, left := f.Depth(), f.Left()
			if depth != p.Depth() || left != p.Left() || f.Broken() != p.Broken() {
				t.Errorf("%q: a Fork stands otherwise", s)
			}
			for _, b := range []string{"<x>", "y='1'", "</x>", "\x00", "<"} {
				p.Feed([]byte(b))
			}
			if f.Depth() != depth || f.Left() != left || f.Broken() != api.OK {
				t.Errorf("%q: a Fork was changed", s)
			}
			l, e := f.Feed([]byte(rest))
			if !sameTokens(append(first, l...), want) || e != err {
				t.Errorf("%q %q: %v, error %d; want %v, error %d", s, rest, l, e, want, err)
			}
		}
	}
}

// P4: what a Fork is fed does not reach the one that it comes of.
func TestForkLeavesTheOther(t *testing.T) {
	p := New()
	p.Feed([]byte("<a><b>xy"))
	for _, b := range []string{"z</b></a>", "</b><c>", "</b><d>", "\x00<", "q"} {
		f := p.Fork()
		f.Feed([]byte(b))
		wantState(t, p, 2, 2)
	}
	if l, e := p.Feed([]byte("z</b></a>")); !sameTokens(l, []api.Token{chars("xyz"), end("b"), end("a")}) || e != api.OK {
		t.Error(l, e)
	}
}

// P3: the bytes that are handed in stay as they are, and are not kept; what is told is not kept either.
func TestNothingShared(t *testing.T) {
	room := []byte("<a b='1'>x<c d='2'/>y spare room")
	kept := slices.Clone(room)
	p := New()
	l, _ := p.Feed(room[:21])
	if !slices.Equal(room, kept) {
		t.Errorf("%q", room)
	}
	for i := range room {
		room[i] = '!'
	}
	for i := range l {
		for k := range l[i].Attrs {
			l[i].Attrs[k] = api.Attr{Name: "z", Value: "z"}
		}
		_ = append(l[i].Attrs, api.Attr{Name: "z"})
		l[i] = api.Token{}
	}
	if l, e := p.Feed([]byte("z</a>")); !sameTokens(l, []api.Token{chars("yz"), end("a")}) || e != api.OK {
		t.Error(l, e)
	}
}

// parts are what random inputs are put together of, right ones more often than wrong ones.
var parts = strings.Split("<a>|<a>|<b>|</a>|</a>|</b>|<c/>|<a b='1'>|<b c=\"x'>\" d='&lt;'/>|x|x|&amp;|&gt;| |\n|<?xml version='1.0'?>|<a |b='|'|\"|>|<|/>|&|=|</a >|<d b='1' b='2'>|<!-- -->|\x00|\xff|\u00e9|<a b='>'>|LONG|LONGTAG|ATTRS", "|")

func randomInput(r *rand.Rand) string {
	var b strings.Builder
	for range r.Intn(14) {
		n := len(parts)
		// Mostly without the last ones, so that there are long right inputs.
		if r.Intn(4) > 0 {
			n = 15
		}
		switch s := parts[r.Intn(n)]; s {
		case "LONG":
			b.WriteString(strings.Repeat("x", 500+r.Intn(15)))
		case "LONGTAG":
			b.WriteString("<a" + strings.Repeat(" ", 2040+r.Intn(10)) + ">")
		case "ATTRS":
			a, _ := attrs(7 + r.Intn(3))
			b.WriteString("<a" + a + ">")
		default:
			b.WriteString(s)
		}
	}
	return b.String()
}

// fedInPieces feeds s cut at random, and asks of each state what must always hold.
func fedInPieces(t *testing.T, r *rand.Rand, s string) (*Parser, []api.Token, api.Errno) {
	t.Helper()
	p := New()
	var all []api.Token
	err := api.OK
	for s != "" {
		n := 1 + r.Intn(min(len(s), 1+r.Intn(40)))
		l, e := p.Feed([]byte(s[:n]))
		if err != api.OK && (e != err || l != nil) {
			t.Errorf("%s: broken by %d, then %v, error %d", short(s), err, l, e)
		}
		all, err, s = append(all, l...), e, s[n:]
		if p.Depth() != unended(t, all) || p.Depth() > api.MaxDepth || p.Left() > 2048 || p.Left() < 0 || p.Broken() != err {
			t.Errorf("%s: Depth %d, Left %d, Broken %d behind %v", short(s), p.Depth(), p.Left(), p.Broken(), all)
		}
	}
	return p, all, err
}

// unended asks that each End ends the last Begin, and answers how many are not ended.
func unended(t *testing.T, l []api.Token) int {
	t.Helper()
	var open []string
	for _, x := range l {
		switch x.Kind {
		case api.Begin:
			open = append(open, x.Name)
		case api.End:
			if len(open) == 0 || open[len(open)-1] != x.Name {
				t.Fatalf("not balanced: %v", l)
			}
			open = open[:len(open)-1]
		}
	}
	return len(open)
}

// P3.4, P3.5, P3.6, and all of P3.2 held against a second reading of the document (model_test.go).
func TestHoweverCut(t *testing.T) {
	r := rand.New(rand.NewSource(1))
	told := map[api.Errno]int{}
	for range 30000 {
		s := randomInput(r)
		whole := New()
		want, err := whole.Feed([]byte(s))
		told[err]++
		p, l, e := fedInPieces(t, r, s)
		if !sameTokens(l, want) || e != err || p.Depth() != whole.Depth() || p.Left() != whole.Left() || p.Broken() != whole.Broken() {
			t.Fatalf("%s: in pieces %v, error %d; at once %v, error %d", short(s), l, e, want, err)
		}
		if m := modelOf(s); !sameTokens(m.told, want) || m.err != err || m.left != whole.Left() {
			t.Fatalf("%s: %v, error %d, Left %d; the model %v, error %d, %d", short(s), want, err, whole.Left(), m.told, m.err, m.left)
		}
	}
	for _, e := range []api.Errno{api.OK, api.ErrXml, api.ErrLong, api.ErrBarred} {
		if told[e] < 100 {
			t.Errorf("the inputs have the error %d only %d times", e, told[e])
		}
	}
}

// P3.4: each byte by itself, of an input with all that there is.
func TestByteByByte(t *testing.T) {
	s := "<?xml version='1.0'?>\n<a x='1' y=\"it's > &lt;\">\u00e9&amp;<b/>\n<c d=''></c >&gt;</a>\n"
	want, err := New().Feed([]byte(s))
	if err != api.OK || len(want) != 9 {
		t.Fatal(want, err)
	}
	p := New()
	var l []api.Token
	for i := range len(s) {
		one, e := p.Feed([]byte(s[i : i+1]))
		if e != api.OK {
			t.Fatalf("at %d: error %d", i, e)
		}
		l = append(l, one...)
	}
	if !reflect.DeepEqual(l, want) {
		t.Errorf("%v, want %v", l, want)
	}
}
