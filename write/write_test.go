package write

import (
	"fmt"
	"math/rand"
	"reflect"
	"slices"
	"strings"
	"testing"

	"heliograph/api"
	"heliograph/text"
	"heliograph/xml"
)

func begin(name string, pairs ...string) api.Token {
	t := api.Token{Kind: api.Begin, Name: name}
	for i := 0; i < len(pairs); i += 2 {
		t.Attrs = append(t.Attrs, api.Attr{Name: pairs[i], Value: pairs[i+1]})
	}
	return t
}

func end(name string) api.Token   { return api.Token{Kind: api.End, Name: name} }
func chars(text string) api.Token { return api.Token{Kind: api.Chars, Text: text} }

func list(l ...api.Token) []api.Token { return l }

func pairs(n int) []string {
	var l []string
	for i := range n {
		l = append(l, fmt.Sprintf("a%d", i), fmt.Sprint(i))
	}
	return l
}

// nested are n elements, each inside the one ahead of it.
func nested(n int) []api.Token {
	return append(slices.Repeat(list(begin("a")), n), slices.Repeat(list(end("a")), n)...)
}

// wantPrint asks for a text, and that the tokens are right and, if so, one element.
func wantPrint(t *testing.T, l []api.Token, want string, whole bool) {
	t.Helper()
	if s, e := Print(l); s != want || e != api.OK {
		t.Errorf("%v: %.200q, error %d; want %.200q", l, s, e, want)
	}
	if !Right(l) || Whole(l) != whole {
		t.Errorf("%v: Right %v, Whole %v", l, Right(l), Whole(l))
	}
}

func wantWrong(t *testing.T, l []api.Token) {
	t.Helper()
	if s, e := Print(l); s != "" || e != api.ErrForm || Right(l) || Whole(l) {
		t.Errorf("%.200v: %.200q, error %d; Right %v, Whole %v", l, s, e, Right(l), Whole(l))
	}
}

// P4.1
func TestPrint(t *testing.T) {
	wantPrint(t, nil, "", false)
	wantPrint(t, list(), "", false)
	wantPrint(t, list(begin("a"), end("a")), "<a/>", true)
	wantPrint(t, list(begin("a"), chars("x"), end("a")), "<a>x</a>", true)
	wantPrint(t, list(begin("a"), begin("b"), end("b"), end("a")), "<a><b/></a>", true)
	wantPrint(t, list(begin("a"), begin("b"), end("b"), chars(" "), begin("c"), chars("y"), end("c"), end("a")), "<a><b/> <c>y</c></a>", true)
	wantPrint(t, list(begin("a", "b", "1", "c", ""), end("a")), "<a b='1' c=''/>", true)
	wantPrint(t, list(begin("a", "b", "<'&\">"), chars("<'&\">"), end("a")), "<a b='&lt;&apos;&amp;&quot;&gt;'>&lt;&apos;&amp;&quot;&gt;</a>", true)
	wantPrint(t, list(begin("a", "b", "\t\n\r\u00e9"), chars("\t\n\r\u00e9"), end("a")), "<a b='\t\n\r\u00e9'>\t\n\r\u00e9</a>", true)
	wantPrint(t, list(begin("a", "c", "1", "b", "2", "B", "3"), end("a")), "<a c='1' b='2' B='3'/>", true)
	wantPrint(t, list(begin("_:.-9"), end("_:.-9")), "<_:.-9/>", true)
}

// P4.1: several elements are right, but not one.
func TestSeveralElements(t *testing.T) {
	wantPrint(t, list(begin("a"), end("a"), begin("b"), end("b")), "<a/><b/>", false)
	wantPrint(t, list(begin("a"), end("a"), begin("a"), end("a")), "<a/><a/>", false)
	wantPrint(t, list(begin("a"), chars("x"), end("a"), begin("a"), begin("b"), end("b"), end("a")), "<a>x</a><a><b/></a>", false)
	wantPrint(t, list(begin("a"), begin("a"), end("a"), begin("a"), end("a"), end("a")), "<a><a/><a/></a>", true)
}

// P4.1: as much as may be, and one more.
func TestLimits(t *testing.T) {
	name := strings.Repeat("n", api.MaxName)
	full := strings.Repeat("x", api.MaxText)
	wide := strings.Repeat("\u00e9", api.MaxText/2)

	wantPrint(t, list(begin(name), end(name)), "<"+name+"/>", true)
	wantWrong(t, list(begin(name+"n"), end(name+"n")))
	wantPrint(t, list(begin("a", name, "1"), end("a")), "<a "+name+"='1'/>", true)
	wantWrong(t, list(begin("a", name+"n", "1"), end("a")))
	wantPrint(t, list(begin("a", "b", full), chars(full), end("a")), "<a b='"+full+"'>"+full+"</a>", true)
	wantPrint(t, list(begin("a", "b", wide), chars(wide), end("a")), "<a b='"+wide+"'>"+wide+"</a>", true)
	for _, long := range []string{full + "x", wide + "x", strings.Repeat("\u00e9", api.MaxText)} {
		wantWrong(t, list(begin("a", "b", long), end("a")))
		wantWrong(t, list(begin("a"), chars(long), end("a")))
	}
	amps := strings.Repeat("&", api.MaxText)
	wantPrint(t, list(begin("a"), chars(amps), end("a")), "<a>"+strings.Repeat("&amp;", api.MaxText)+"</a>", true)

	if !Right(list(begin("a", pairs(api.MaxAttrs)...), end("a"))) {
		t.Error("MaxAttrs attributes")
	}
	wantWrong(t, list(begin("a", pairs(api.MaxAttrs+1)...), end("a")))

	if !Whole(nested(api.MaxDepth)) {
		t.Error("MaxDepth elements")
	}
	wantWrong(t, nested(api.MaxDepth+1))
	deep := slices.Insert(nested(api.MaxDepth), api.MaxDepth, chars("x"))
	wantPrint(t, deep, strings.Repeat("<a>", api.MaxDepth)+"x"+strings.Repeat("</a>", api.MaxDepth), true)
	twice := append(nested(api.MaxDepth), nested(api.MaxDepth)...)
	if !Right(twice) || Whole(twice) {
		t.Error("MaxDepth elements twice")
	}

	most := slices.Repeat(list(begin("a"), end("a")), api.MaxTokens/2)
	wantPrint(t, most, strings.Repeat("<a/>", api.MaxTokens/2), false)
	wantWrong(t, append(most, begin("a"), end("a")))
	odd := Element("b", nil, most[:api.MaxTokens-2]...)
	if len(odd) != api.MaxTokens || !Whole(odd) {
		t.Error("MaxTokens tokens")
	}
	wantWrong(t, slices.Insert(odd, 1, chars("x")))
}

// P4.1: tokens that are wrong by themselves.
func TestWrongTokens(t *testing.T) {
	for _, kind := range []api.TokenKind{api.NoToken, api.Chars + 1, 255} {
		wantWrong(t, list(api.Token{Kind: kind}))
		wantWrong(t, list(begin("a"), api.Token{Kind: kind}, end("a")))
		wantWrong(t, list(begin("a"), api.Token{Kind: kind, Text: "x"}, end("a")))
		wantWrong(t, list(begin("a"), api.Token{Kind: kind, Name: "a"}, end("a")))
		wantWrong(t, list(begin("a"), end("a"), api.Token{Kind: kind}))
	}
	for _, name := range []string{"", "9", "-a", ".a", ":a", " a", "a ", "a b", "a\n", "\u00e9", "a\u00e9", "a<", "a>", "a=", "a/", "/a", "\xff", "a\x00"} {
		wantWrong(t, list(begin(name), end(name)))
		wantWrong(t, list(begin("a", name, "1"), end("a")))
		wantWrong(t, list(begin("a", "b", "1", name, "1"), end("a")))
	}
	for _, s := range []string{"\x00", "\x1f", "a\x0b", "\xff", "\xc3", "\xed\xa0\x80", "\ufffe", "\uffff"} {
		wantWrong(t, list(begin("a", "b", s), end("a")))
		wantWrong(t, list(begin("a"), chars(s), end("a")))
	}
	wantWrong(t, list(begin("a"), chars(""), end("a")))
	wantWrong(t, list(begin("a", "b", "1", "b", "2"), end("a")))
	wantWrong(t, list(begin("a", "b", "1", "b", "1"), end("a")))
	wantWrong(t, list(begin("a", "b", "1", "c", "2", "b", "3"), end("a")))
	wantWrong(t, list(begin("a"), begin("c", "b", "", "b", ""), end("c"), end("a")))
}

// P4.1: a token has just what its kind names; an empty list is as none.
func TestJustWhatItNames(t *testing.T) {
	some, none := []api.Attr{{Name: "b", Value: "1"}}, []api.Attr{}
	wantWrong(t, list(api.Token{Kind: api.Begin, Name: "a", Text: "x"}, end("a")))
	wantWrong(t, list(begin("a"), api.Token{Kind: api.End, Name: "a", Text: "x"}))
	wantWrong(t, list(begin("a"), api.Token{Kind: api.End, Name: "a", Attrs: some}))
	wantWrong(t, list(begin("a"), api.Token{Kind: api.Chars, Text: "x", Name: "a"}, end("a")))
	wantWrong(t, list(begin("a"), api.Token{Kind: api.Chars, Text: "x", Attrs: some}, end("a")))
	wantPrint(t, list(api.Token{Kind: api.Begin, Name: "a", Attrs: none}, api.Token{Kind: api.Chars, Text: "x", Attrs: none}, api.Token{Kind: api.End, Name: "a", Attrs: none}), "<a>x</a>", true)
}

// P4.1: tokens that are wrong where they stand.
func TestWrongPlaces(t *testing.T) {
	wantWrong(t, list(begin("a")))
	wantWrong(t, list(end("a")))
	wantWrong(t, list(chars("x")))
	wantWrong(t, list(chars(" ")))
	wantWrong(t, list(begin("a"), end("b")))
	wantWrong(t, list(begin("a"), end("A")))
	wantWrong(t, list(begin("a"), end("")))
	wantWrong(t, list(begin("a"), begin("b"), end("a"), end("b")))
	wantWrong(t, list(begin("a"), begin("b"), end("b")))
	wantWrong(t, list(begin("a"), begin("a"), end("a")))
	wantWrong(t, list(begin("a"), end("a"), end("a")))
	wantWrong(t, list(begin("a"), end("a"), chars("x")))
	wantWrong(t, list(chars("x"), begin("a"), end("a")))
	wantWrong(t, list(begin("a"), end("a"), chars("x"), begin("a"), end("a")))
	wantWrong(t, list(begin("a"), chars("x"), chars("y"), end("a")))
	wantWrong(t, list(begin("a"), end("a"), begin("b")))
	wantPrint(t, list(begin("a"), chars("x"), begin("b"), end("b"), chars("y"), end("a")), "<a>x<b/>y</a>", true)
	wantPrint(t, list(begin("a"), chars("x"), end("a"), begin("b"), chars("y"), end("b")), "<a>x</a><b>y</b>", false)
}

// P4.2
func TestAttr(t *testing.T) {
	some := begin("a", "b", "1", "c", "", "b", "2", "", "3")
	for _, x := range []struct {
		name, value string
		ok          bool
	}{{"b", "1", true}, {"c", "", true}, {"", "3", true}, {"B", "", false}, {"d", "", false}, {"b ", "", false}, {"\xff", "", false}} {
		if v, ok := Attr(some, x.name); v != x.value || ok != x.ok {
			t.Errorf("%q: %q %v", x.name, v, ok)
		}
	}
	for _, none := range list(api.Token{}, begin("a"), end("b"), chars("b")) {
		for _, name := range []string{"", "a", "b"} {
			if v, ok := Attr(none, name); v != "" || ok {
				t.Errorf("%v %q: %q %v", none, name, v, ok)
			}
		}
	}
}

// P4.2: Element asks nothing of what it is given.
func TestElement(t *testing.T) {
	attrs := []api.Attr{{Name: "x", Value: "1"}, {Name: "x", Value: "<"}}
	odd := api.Token{Kind: 9, Name: "n", Attrs: attrs, Text: "t"}
	for _, x := range []struct{ got, want []api.Token }{
		{Element("a", nil), list(begin("a"), end("a"))},
		{Element("", nil), list(begin(""), end(""))},
		{Element("a", []api.Attr{}), list(begin("a"), end("a"))},
		{Element("a", attrs), list(begin("a", "x", "1", "x", "<"), end("a"))},
		{Element("a", nil, chars("x")), list(begin("a"), chars("x"), end("a"))},
		{Element("a", nil, odd, end("b")), list(begin("a"), odd, end("b"), end("a"))},
		{Element("a", nil, Element("b", attrs, chars(""))...), list(begin("a"), begin("b", "x", "1", "x", "<"), chars(""), end("b"), end("a"))},
	} {
		if !Same(x.got, x.want) {
			t.Errorf("%v, want %v", x.got, x.want)
		}
	}
	if many := Element("a", nil, make([]api.Token, 1000)...); len(many) != 1002 || many[1001].Name != "a" {
		t.Error(len(many))
	}
}

// P3: what is handed in stays as it is, and no list of an answer lies in it, or in another one of the answer.
func TestNothingShared(t *testing.T) {
	attrs := append(make([]api.Attr, 0, 4), api.Attr{Name: "x", Value: "1"})
	inside := append(make([]api.Token, 0, 8), api.Token{Kind: api.Begin, Name: "b", Attrs: attrs}, end("b"), api.Token{Kind: api.Begin, Name: "b", Attrs: attrs}, end("b"))
	l := Element("a", attrs, inside...)
	for i := range l {
		for k := range l[i].Attrs {
			l[i].Attrs[k].Value = fmt.Sprint(i)
		}
		l[i].Attrs = append(l[i].Attrs, api.Attr{Name: "y", Value: fmt.Sprint(i)})
	}
	for i := range l {
		if n := len(l[i].Attrs); l[i].Attrs[n-1].Value != fmt.Sprint(i) || n > 1 && l[i].Attrs[0].Value != fmt.Sprint(i) {
			t.Errorf("%d: %v", i, l[i])
		}
	}
	_ = append(l, chars("x"))
	if attrs[0].Value != "1" || attrs[:2][1] != (api.Attr{}) || !reflect.DeepEqual(inside[:5], append(slices.Clone(inside), api.Token{})) || inside[0].Attrs[0].Value != "1" {
		t.Error(attrs[:4], inside[:8])
	}
	kept := list(begin("a", "x", "1"), chars("<"), end("a"))
	Print(kept)
	Right(kept)
	Whole(kept)
	if !reflect.DeepEqual(kept, list(begin("a", "x", "1"), chars("<"), end("a"))) {
		t.Error(kept)
	}
}

// P4.2
func TestSame(t *testing.T) {
	some := list(begin("a", "b", "1", "c", "2"), chars("x"), end("a"))
	for i, other := range [][]api.Token{
		nil, some[:2], append(slices.Clone(some), end("a")),
		list(begin("A", "b", "1", "c", "2"), chars("x"), end("a")),
		list(begin("a", "b", "1", "c", "3"), chars("x"), end("a")),
		list(begin("a", "b", "1", "d", "2"), chars("x"), end("a")),
		list(begin("a", "c", "2", "b", "1"), chars("x"), end("a")),
		list(begin("a", "b", "1"), chars("x"), end("a")),
		list(begin("a", "b", "1", "c", "2", "d", ""), chars("x"), end("a")),
		list(begin("a", "b", "1", "c", "2"), chars("y"), end("a")),
		list(begin("a", "b", "1", "c", "2"), chars("x"), begin("a")),
		list(begin("a", "b", "1", "c", "2"), api.Token{Kind: api.NoToken, Text: "x"}, end("a")),
		list(begin("a", "b", "1", "c", "2"), api.Token{Kind: api.Chars, Name: "x", Text: "x"}, end("a")),
		list(chars("x"), begin("a", "b", "1", "c", "2"), end("a")),
	} {
		if Same(some, other) || Same(other, some) || !Same(other, slices.Clone(other)) {
			t.Error(i)
		}
	}
	copied := list(begin("a", "b", "1", "c", "2"), chars("x"), end("a"))
	copied[1].Attrs = []api.Attr{}
	if !Same(some, copied) || !Same(copied, some) || !Same(nil, list()) || !Same(list(), nil) || !Same(nil, nil) {
		t.Error("alike")
	}
	wrong := list(api.Token{Kind: 77, Text: "\xff"})
	if !Same(wrong, list(api.Token{Kind: 77, Text: "\xff"})) {
		t.Error("wrong ones, alike")
	}
}

// texts are values and texts, each of which stays within its piece when it is escaped.
var texts = []string{"x", " ", "\n", "\t\r", "it's", "<a/>", "&amp;", "&", "\"", "]]>", "\u00e9\U0001F600", "'='", "\x7f", strings.Repeat("y", 200)}

// randomElement makes at most room tokens at random, at least two.
func randomElement(r *rand.Rand, depth, room int) []api.Token {
	t := begin(string(rune('a' + r.Intn(3))))
	for i := range r.Intn(4) * r.Intn(3) {
		t.Attrs = append(t.Attrs, api.Attr{Name: fmt.Sprintf("n%d", i), Value: append(texts, "")[r.Intn(len(texts)+1)]})
	}
	var inside []api.Token
	for range r.Intn(5) {
		left := room - 2 - len(inside)
		if n := len(inside); r.Intn(2) == 0 && left >= 1 && (n == 0 || inside[n-1].Kind != api.Chars) {
			inside = append(inside, chars(texts[r.Intn(len(texts))]))
		} else if depth < api.MaxDepth && left >= 2 {
			inside = append(inside, randomElement(r, depth+1, left)...)
		}
	}
	return append(append(list(t), inside...), end(t.Name))
}

// fits tells whether no piece of the text is too long for the parser.
func fits(l []api.Token) bool {
	for _, t := range l {
		n := len(t.Name) + 3
		for _, a := range t.Attrs {
			n += len(a.Name) + len(text.Escape(a.Value)) + 4
		}
		if n > 2048 || len(text.Escape(t.Text)) > api.MaxText {
			return false
		}
	}
	return true
}

// P4.3: the parser tells the tokens again, of one element and, each inside the same one, of several.
func TestParserTellsTheTokens(t *testing.T) {
	r := rand.New(rand.NewSource(2))
	asked := 0
	for range 5000 {
		l := randomElement(r, 1, api.MaxTokens)
		s, e := Print(l)
		if e != api.OK || !Whole(l) {
			t.Fatalf("%v: error %d, Whole %v", l, e, Whole(l))
		}
		if !fits(l) {
			continue
		}
		asked++
		p := xml.New()
		if told, e := p.Feed([]byte(s)); !Same(told, l) || e != api.OK || p.Depth() != 0 || p.Left() != 0 {
			t.Fatalf("%q: %v, error %d; want %v", s, told, e, l)
		}
	}
	if asked < 4000 {
		t.Errorf("only %d were asked", asked)
	}
}

// P4.3: several elements, told inside one that is open.
func TestParserTellsSeveralElements(t *testing.T) {
	l := list(begin("a", "b", "it's"), end("a"), begin("c"), chars("<"), end("c"))
	s, e := Print(l)
	p := xml.New()
	p.Feed([]byte("<stream>"))
	if told, err := p.Feed([]byte(s)); e != api.OK || !Same(told, l) || err != api.OK || p.Depth() != 1 {
		t.Errorf("%q: %v, error %d", s, told, err)
	}
}

// The walk can be left at any step.
func TestWalkIsLeft(t *testing.T) {
	n := 0
	for range walk(nested(3)) {
		n++
		if n == 2 {
			break
		}
	}
	if n != 2 {
		t.Error(n)
	}
}
