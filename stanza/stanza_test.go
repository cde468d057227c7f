package stanza

import (
	"fmt"
	"math/rand"
	"reflect"
	"slices"
	"strings"
	"testing"

	"heliograph/api"
	"heliograph/fault"
	"heliograph/write"
	"heliograph/xml"
)

var kinds = []api.StanzaKind{api.Iq, api.Message, api.Presence}

// types are those that the document names, kind by kind.
var types = map[api.StanzaKind][]string{
	api.Iq:       {"get", "set", "result", "error"},
	api.Message:  {"", "chat", "headline", "error"},
	api.Presence: {"", "unavailable", "error"},
}

var names = map[api.StanzaKind]string{api.Iq: "iq", api.Message: "message", api.Presence: "presence"}

var conds = []api.Cond{api.BadRequest, api.Conflict, api.Forbidden, api.ItemNotFound, api.JidMalformed, api.NotAllowed, api.NotAuthorized, api.ResourceConstraint, api.ServiceUnavailable, api.UnexpectedRequest}

var wrongConds = []api.Cond{api.NoCond, -1, api.UnexpectedRequest + 1, 1 << 40, -1 << 40}

func begin(name string, pairs ...string) api.Token {
	t := api.Token{Kind: api.Begin, Name: name}
	for i := 0; i < len(pairs); i += 2 {
		t.Attrs = append(t.Attrs, api.Attr{Name: pairs[i], Value: pairs[i+1]})
	}
	return t
}

func end(name string) api.Token       { return api.Token{Kind: api.End, Name: name} }
func chars(text string) api.Token     { return api.Token{Kind: api.Chars, Text: text} }
func list(l ...api.Token) []api.Token { return l }

// parse are the tokens of a text.
func parse(t *testing.T, s string) []api.Token {
	t.Helper()
	l, e := xml.New().Feed([]byte(s))
	if e != api.OK {
		t.Fatalf("%q: error %d", s, e)
	}
	return l
}

// equal is a second reading of Same: a list that is empty is as none.
func equal(a, b api.Stanza) bool {
	bare := func(s api.Stanza) api.Stanza { s.Payload = nil; return s }
	return reflect.DeepEqual(bare(a), bare(b)) && fmt.Sprintf("%q", a.Payload) == fmt.Sprintf("%q", b.Payload)
}

func wantRight(t *testing.T, s api.Stanza, want string) {
	t.Helper()
	l, e := Encode(s)
	if e != api.OK || !Right(s) {
		t.Errorf("%q: error %d, Right %v", s, e, Right(s))
		return
	}
	if got, _ := write.Print(l); want != "" && got != want {
		t.Errorf("%s, want %s", got, want)
	}
	if back, e := Decode(l); e != api.OK || !equal(back, s) || !Same(back, s) {
		t.Errorf("%q comes back as %q, error %d", s, back, e)
	}
}

func wantWrong(t *testing.T, s api.Stanza) {
	t.Helper()
	if l, e := Encode(s); e != api.ErrForm || len(l) != 0 || Right(s) {
		t.Errorf("%.200q: %.200q, error %d, Right %v", s, l, e, Right(s))
	}
}

func wantDecode(t *testing.T, l []api.Token, want api.Stanza) {
	t.Helper()
	s, e := Decode(l)
	if e != api.OK || !equal(s, want) || !Right(s) {
		t.Errorf("%q: %q, error %d; want %q", l, s, e, want)
		return
	}
	// What Encode tells of it says the same.
	again, _ := Encode(s)
	if back, e := Decode(again); e != api.OK || !equal(back, want) {
		t.Errorf("%q again: %q, error %d", l, back, e)
	}
}

func wantNoStanza(t *testing.T, l []api.Token) {
	t.Helper()
	if s, e := Decode(l); e != api.ErrForm || !reflect.DeepEqual(s, api.Stanza{}) {
		t.Errorf("%.200q: %.200q, error %d", l, s, e)
	}
}

// P6.1, P6.3
func TestEncode(t *testing.T) {
	wantRight(t, api.Stanza{Kind: api.Iq, Type: "get", Id: "1"}, "<iq type='get' id='1'/>")
	wantRight(t, api.Stanza{Kind: api.Iq, Type: "set", From: "a@d/x", To: "p.d", Id: "7", Payload: write.Element("q", nil)}, "<iq type='set' from='a@d/x' to='p.d' id='7'><q/></iq>")
	wantRight(t, api.Stanza{Kind: api.Message}, "<message/>")
	wantRight(t, api.Stanza{Kind: api.Presence}, "<presence/>")
	wantRight(t, api.Stanza{Kind: api.Presence, Payload: list()}, "<presence/>")
	wantRight(t, api.Stanza{Kind: api.Message, To: "d"}, "<message to='d'/>")
	wantRight(t, api.Stanza{Kind: api.Message, From: "d"}, "<message from='d'/>")
	wantRight(t, api.Stanza{Kind: api.Message, Id: "<'\u00e9\t"}, "<message id='&lt;&apos;\u00e9\t'/>")
	wantRight(t, api.Stanza{Kind: api.Message, Type: "chat", To: "A@D/R", Payload: list(chars("x<y"))}, "<message type='chat' to='A@D/R'>x&lt;y</message>")
	wantRight(t, api.Stanza{Kind: api.Message, Payload: list(chars("x"), begin("b", "c", "1"), chars("y"), end("b"), begin("b"), end("b"), chars("z"))}, "<message>x<b c='1'>y</b><b/>z</message>")
	wantRight(t, api.Stanza{Kind: api.Iq, Type: "result", Id: "1", Payload: list(begin("iq"), end("iq"))}, "<iq type='result' id='1'><iq/></iq>")
}

// P6.1: each kind with each type, and with those that no kind has.
func TestTypes(t *testing.T) {
	for _, kind := range kinds {
		for _, name := range []string{"", "get", "set", "result", "error", "chat", "headline", "unavailable", "subscribe", "normal", "groupchat", "available", "Get", "GET", "get ", " ", "e", "errors", "\xff"} {
			s := api.Stanza{Kind: kind, Type: name, Id: "i"}
			l := list(begin(names[kind], "type", name, "id", "i"), end(names[kind]))
			if slices.Contains(types[kind], name) {
				wantRight(t, s, "")
				wantDecode(t, l, s)
			} else {
				wantWrong(t, s)
				wantNoStanza(t, l)
			}
		}
	}
}

// P6.1: kinds that are none, and elements that are no stanza's.
func TestKinds(t *testing.T) {
	for _, kind := range []api.StanzaKind{api.NoStanza, api.Presence + 1, 9, 255} {
		for _, name := range []string{"", "get", "chat", "unavailable", "error"} {
			wantWrong(t, api.Stanza{Kind: kind, Type: name, Id: "1"})
		}
	}
	for _, name := range []string{"a", "Iq", "IQ", "i", "iqs", "messages", "Presence", "stream", "_"} {
		wantNoStanza(t, list(begin(name), end(name)))
		wantNoStanza(t, list(begin(name, "type", "error", "id", "1"), end(name)))
	}
}

// P6.1: an iq's id may not be empty, the others' may.
func TestId(t *testing.T) {
	full, wide := strings.Repeat("x", api.MaxText), strings.Repeat("\u00e9", api.MaxText/2)
	for _, kind := range kinds {
		name := names[kind]
		s := api.Stanza{Kind: kind, Type: "error"}
		if kind == api.Iq {
			wantWrong(t, s)
			wantNoStanza(t, list(begin(name, "type", "error"), end(name)))
			wantNoStanza(t, list(begin(name, "type", "error", "id", ""), end(name)))
		} else {
			wantRight(t, s, "<"+name+" type='error'/>")
			wantDecode(t, list(begin(name, "type", "error"), end(name)), s)
			wantDecode(t, list(begin(name, "type", "error", "id", ""), end(name)), s)
		}
		for _, id := range []string{"1", " ", "a b", "\t\n\r", "\u00e9\U0001f600", "&<>'\"", "\ufffd", full, wide} {
			s.Id = id
			wantRight(t, s, "")
			wantDecode(t, list(begin(name, "type", "error", "id", id), end(name)), s)
		}
		for _, id := range []string{full + "x", wide + "x", strings.Repeat("\u00e9", api.MaxText), "\x00", "a\x1f", "\xff", "\xc3", "\ufffe", "\uffff", "\xed\xa0\x80"} {
			s.Id = id
			wantWrong(t, s)
			wantNoStanza(t, list(begin(name, "type", "error", "id", id), end(name)))
		}
	}
}

// P6.1: From and To are empty, or addresses.
func TestAddresses(t *testing.T) {
	long := strings.Repeat("d", api.MaxJid)
	for _, kind := range kinds {
		name := names[kind]
		for _, j := range []string{"", "d", "a@d", "d/r", "A@D.net/R", "-._", long} {
			for _, s := range []api.Stanza{{Kind: kind, Type: "error", Id: "1", From: j}, {Kind: kind, Type: "error", Id: "1", To: j}, {Kind: kind, Type: "error", Id: "1", From: j, To: j}} {
				wantRight(t, s, "")
				wantDecode(t, list(begin(name, "type", "error", "from", s.From, "to", s.To, "id", "1"), end(name)), s)
			}
		}
		for _, j := range []string{" ", "a b", "@d", "a@", "d/", "a@b@c", "d/x/y", "\u00e4", "\xff", long + "d"} {
			for _, s := range []api.Stanza{{Kind: kind, Type: "error", Id: "1", From: j}, {Kind: kind, Type: "error", Id: "1", To: j}, {Kind: kind, Type: "error", Id: "1", From: "d", To: j}, {Kind: kind, Type: "error", Id: "1", From: j, To: "d"}} {
				wantWrong(t, s)
				wantNoStanza(t, list(begin(name, "type", "error", "from", s.From, "to", s.To, "id", "1"), end(name)))
			}
		}
	}
}

// P6.1
func TestDecode(t *testing.T) {
	wantDecode(t, parse(t, "<iq type='get' id='1'/>"), api.Stanza{Kind: api.Iq, Type: "get", Id: "1"})
	wantDecode(t, parse(t, "<iq id='1' to='d' from='a@d/r' type='set'><q x='1'>y</q> </iq>"), api.Stanza{Kind: api.Iq, Type: "set", Id: "1", From: "a@d/r", To: "d", Payload: list(begin("q", "x", "1"), chars("y"), end("q"), chars(" "))})
	wantDecode(t, parse(t, "<message type='' from='' to='' id=''/>"), api.Stanza{Kind: api.Message})
	wantDecode(t, parse(t, "<presence/>"), api.Stanza{Kind: api.Presence})
	wantDecode(t, parse(t, "<presence type='unavailable'><message type='x' y='z'/></presence>"), api.Stanza{Kind: api.Presence, Type: "unavailable", Payload: list(begin("message", "type", "x", "y", "z"), end("message"))})
}

// P6.1: other names of attributes.
func TestDecodeOtherNames(t *testing.T) {
	for _, name := range []string{"x", "Type", "TYPE", "types", "xmlns", "xml:lang", "lang", "ID", "From", "t"} {
		for _, value := range []string{"", "y", "get", "d"} {
			wantNoStanza(t, list(begin("iq", "type", "get", "id", "1", name, value), end("iq")))
			wantNoStanza(t, list(begin("iq", name, value, "type", "get", "id", "1"), end("iq")))
			wantNoStanza(t, list(begin("message", name, value), end("message")))
		}
	}
}

// P6.1: tokens that are not one whole element.
func TestDecodeNotWhole(t *testing.T) {
	wantNoStanza(t, nil)
	wantNoStanza(t, list())
	wantNoStanza(t, list(begin("message")))
	wantNoStanza(t, list(end("message")))
	wantNoStanza(t, list(chars("message")))
	wantNoStanza(t, list(begin("message"), end("presence")))
	wantNoStanza(t, list(begin("message"), end("message"), end("message")))
	wantNoStanza(t, list(begin("message"), end("message"), begin("message"), end("message")))
	wantNoStanza(t, list(begin("message"), end("message"), chars(" ")))
	wantNoStanza(t, list(chars(" "), begin("message"), end("message")))
	wantNoStanza(t, list(begin("message"), begin("a"), end("message"), end("a")))
	wantNoStanza(t, list(begin("message"), chars("x"), chars("y"), end("message")))
	wantNoStanza(t, list(begin("message"), chars(""), end("message")))
	wantNoStanza(t, list(begin("message"), api.Token{}, end("message")))
	wantNoStanza(t, list(begin("message", "id", "1", "id", "1"), end("message")))
	wantNoStanza(t, list(api.Token{Kind: api.Begin, Name: "message", Text: "x"}, end("message")))
	wantNoStanza(t, list(begin("message"), api.Token{Kind: api.End, Name: "message", Text: "x"}))
}

// P6.1: payloads that may not be inside.
func TestWrongPayloads(t *testing.T) {
	for _, kind := range kinds {
		name := names[kind]
		for _, payload := range [][]api.Token{
			list(begin("a")), list(end("a")), list(begin("a"), end("b")), list(api.Token{}), list(chars("")),
			list(chars("x"), chars("y")), list(begin("9"), end("9")), list(begin("a", "b", "1", "b", "2"), end("a")), list(chars("\x00")),
			list(end(name)), list(begin(name)), list(begin(name, "type", "error", "id", "1")),
			// These would be right tokens, but the stanza's element would end within its own payload.
			list(end(name), begin(name)), list(chars("x"), end(name), begin(name), chars("y")),
			list(end(name), begin("a"), end("a"), begin(name)),
		} {
			wantWrong(t, api.Stanza{Kind: kind, Type: "error", Id: "1", Payload: payload})
		}
	}
}

// P6.1: as many tokens and as deep as may be, and one more.
func TestPayloadLimits(t *testing.T) {
	most := slices.Repeat(list(begin("a"), end("a")), api.MaxTokens/2-1)
	wantRight(t, api.Stanza{Kind: api.Message, Payload: most}, "<message>"+strings.Repeat("<a/>", api.MaxTokens/2-1)+"</message>")
	wantWrong(t, api.Stanza{Kind: api.Message, Payload: append(list(chars("x")), most...)})
	wantNoStanza(t, write.Element("message", nil, append(list(chars("x")), most...)...))

	deep := func(n int) []api.Token {
		return append(slices.Repeat(list(begin("a")), n), slices.Repeat(list(end("a")), n)...)
	}
	wantRight(t, api.Stanza{Kind: api.Message, Payload: deep(api.MaxDepth - 1)}, "")
	wantWrong(t, api.Stanza{Kind: api.Message, Payload: deep(api.MaxDepth)})
	wantNoStanza(t, write.Element("message", nil, deep(api.MaxDepth)...))

	full := strings.Repeat("x", api.MaxText)
	wantRight(t, api.Stanza{Kind: api.Message, Payload: list(chars(full))}, "<message>"+full+"</message>")
	wantWrong(t, api.Stanza{Kind: api.Message, Payload: list(chars(full + "x"))})
	wantWrong(t, api.Stanza{Kind: api.Message, Payload: make([]api.Token, 100000)})
}

// P6.2: Result asks nothing of what it is given.
func TestResult(t *testing.T) {
	payload := write.Element("q", []api.Attr{{Name: "a", Value: "1"}}, chars("x"))
	s := api.Stanza{Kind: api.Iq, Type: "get", From: "a@d/x", To: "p.d", Id: "7", Payload: list(begin("other"), end("other"))}
	r := Result(s, payload)
	if !equal(r, api.Stanza{Kind: api.Iq, Type: "result", From: "p.d", To: "a@d/x", Id: "7", Payload: payload}) {
		t.Errorf("%q", r)
	}
	wantRight(t, r, "<iq type='result' from='p.d' to='a@d/x' id='7'><q a='1'>x</q></iq>")
	for _, kind := range append(kinds, api.NoStanza, 9) {
		s := api.Stanza{Kind: kind, Type: "\xff", From: "a b", Payload: payload}
		for _, none := range [][]api.Token{nil, list()} {
			if r := Result(s, none); !equal(r, api.Stanza{Kind: api.Iq, Type: "result", To: "a b"}) {
				t.Errorf("%q", r)
			}
		}
	}
	if r := Result(api.Stanza{}, list(api.Token{Kind: 9}, end("x"))); !equal(r, api.Stanza{Kind: api.Iq, Type: "result", Payload: list(api.Token{Kind: 9}, end("x"))}) {
		t.Errorf("%q", r)
	}
}

// P6.2, P6.4
func TestErrorAndFailed(t *testing.T) {
	for _, kind := range append(kinds, api.NoStanza, 9) {
		for _, c := range conds {
			s := api.Stanza{Kind: kind, Type: "chat", From: "a@d/x", To: "p.d", Id: "7", Payload: list(begin("other"), end("other"))}
			r := Error(s, c)
			payload := list(begin("error", "type", fault.Type(c)), begin(fault.Name(c)), end(fault.Name(c)), end("error"))
			if !equal(r, api.Stanza{Kind: kind, Type: "error", From: "p.d", To: "a@d/x", Id: "7", Payload: payload}) {
				t.Errorf("%q", r)
			}
			if got, ok := Failed(r); got != c || !ok {
				t.Errorf("Failed of Error of %d: %d %v", c, got, ok)
			}
			if name, ok := names[kind]; ok {
				wantRight(t, r, fmt.Sprintf("<%s type='error' from='p.d' to='a@d/x' id='7'><error type='%s'><%s/></error></%[1]s>", name, fault.Type(c), fault.Name(c)))
			}
		}
	}
}

// P6.2: of a condition that is none Error tells what there is: empty names, which Failed does not know.
func TestErrorOfNoCondition(t *testing.T) {
	for _, c := range wrongConds {
		r := Error(api.Stanza{Kind: api.Message, From: "d"}, c)
		if !equal(r, api.Stanza{Kind: api.Message, Type: "error", To: "d", Payload: list(begin("error", "type", ""), begin(""), end(""), end("error"))}) {
			t.Errorf("%q", r)
		}
		if got, ok := Failed(r); got != api.NoCond || ok {
			t.Errorf("Failed: %d %v", got, ok)
		}
		wantWrong(t, r)
	}
}

// P6.2: Failed looks at the type and the first two tokens alone.
func TestFailed(t *testing.T) {
	for _, x := range []struct {
		s    api.Stanza
		cond api.Cond
	}{
		{api.Stanza{Type: "error", Payload: list(begin("error"), begin("conflict"))}, api.Conflict},
		{api.Stanza{Kind: 9, Type: "error", From: " ", Payload: list(begin("error", "type", "wait"), begin("forbidden", "x", "y"), chars("z"))}, api.Forbidden},
		{api.Stanza{}, api.NoCond},
		{api.Stanza{Type: "error"}, api.NoCond},
		{api.Stanza{Type: "error", Payload: list()}, api.NoCond},
		{api.Stanza{Type: "error", Payload: list(begin("error"))}, api.NoCond},
		{api.Stanza{Type: "error", Payload: list(begin("error"), end("error"))}, api.NoCond},
		{api.Stanza{Type: "error", Payload: list(begin("error"), end("conflict"))}, api.NoCond},
		{api.Stanza{Type: "error", Payload: list(begin("error"), chars("conflict"))}, api.NoCond},
		{api.Stanza{Type: "error", Payload: list(begin("error"), api.Token{Kind: api.Chars, Name: "conflict", Text: "x"})}, api.NoCond},
		{api.Stanza{Type: "error", Payload: list(begin("error"), begin("Conflict"))}, api.NoCond},
		{api.Stanza{Type: "error", Payload: list(begin("error"), begin(""))}, api.NoCond},
		{api.Stanza{Type: "error", Payload: list(begin("error"), begin("error"), begin("conflict"))}, api.NoCond},
		{api.Stanza{Type: "error", Payload: list(begin("error"), chars("x"), begin("conflict"))}, api.NoCond},
		{api.Stanza{Type: "error", Payload: list(begin("errors"), begin("conflict"))}, api.NoCond},
		{api.Stanza{Type: "error", Payload: list(begin("conflict"), begin("conflict"))}, api.NoCond},
		{api.Stanza{Type: "error", Payload: list(end("error"), begin("conflict"))}, api.NoCond},
		{api.Stanza{Type: "error", Payload: list(chars("x"), begin("error"), begin("conflict"))}, api.NoCond},
		{api.Stanza{Type: "", Payload: list(begin("error"), begin("conflict"))}, api.NoCond},
		{api.Stanza{Kind: api.Iq, Type: "result", Id: "1", Payload: list(begin("error"), begin("conflict"))}, api.NoCond},
		{api.Stanza{Type: "Error", Payload: list(begin("error"), begin("conflict"))}, api.NoCond},
	} {
		if c, ok := Failed(x.s); c != x.cond || ok != (x.cond != api.NoCond) {
			t.Errorf("%q: %d %v", x.s, c, ok)
		}
	}
}

// P6.2
func TestSame(t *testing.T) {
	some := func() api.Stanza {
		return api.Stanza{Kind: api.Iq, Type: "get", From: "a", To: "b", Id: "1", Payload: list(begin("q", "x", "1"), chars("y"), end("q"))}
	}
	if !Same(some(), some()) || !Same(api.Stanza{}, api.Stanza{Payload: list()}) || !Same(api.Stanza{Kind: 9, Id: "\xff"}, api.Stanza{Kind: 9, Id: "\xff"}) {
		t.Error("the same")
	}
	for i, change := range []func(*api.Stanza){
		func(s *api.Stanza) { s.Kind = api.Message },
		func(s *api.Stanza) { s.Type = "set" },
		func(s *api.Stanza) { s.From = "A" },
		func(s *api.Stanza) { s.To = "" },
		func(s *api.Stanza) { s.From, s.To = s.To, s.From },
		func(s *api.Stanza) { s.Id = "2" },
		func(s *api.Stanza) { s.Payload = nil },
		func(s *api.Stanza) { s.Payload = s.Payload[:2] },
		func(s *api.Stanza) { s.Payload[0].Attrs[0].Value = "2" },
		func(s *api.Stanza) { s.Payload[1].Text = "z" },
	} {
		a, b := some(), some()
		change(&b)
		if Same(a, b) || Same(b, a) || !Same(b, b) {
			t.Errorf("change %d", i)
		}
	}
}

// P6.3: stanzas of all kinds of payloads, through tokens and through text.
func TestThereAndBack(t *testing.T) {
	r := rand.New(rand.NewSource(1))
	pick := func(l ...string) string { return l[r.Intn(len(l))] }
	for range 5000 {
		kind := kinds[r.Intn(len(kinds))]
		s := api.Stanza{Kind: kind, Type: pick(types[kind]...), From: pick("", "d", "a@d/x"), To: pick("", "p.d"), Id: pick("1", "a'b", "\u00e9"), Payload: somePayload(r, 3)}
		if kind != api.Iq && r.Intn(3) == 0 {
			s.Id = ""
		}
		if len(s.Payload)+2 > api.MaxTokens {
			wantWrong(t, s)
			continue
		}
		wantRight(t, s, "")
		l, _ := Encode(s)
		text, _ := write.Print(l)
		wantDecode(t, parse(t, text), s)
	}
}

func somePayload(r *rand.Rand, depth int) []api.Token {
	var l []api.Token
	for range r.Intn(5) {
		switch n := len(l); {
		case r.Intn(3) == 0 && (n == 0 || l[n-1].Kind != api.Chars):
			l = append(l, chars([]string{" ", "x", "<&>"}[r.Intn(3)]))
		case depth > 0:
			name := []string{"a", "iq", "error"}[r.Intn(3)]
			l = append(l, write.Element(name, []api.Attr{{Name: "k", Value: fmt.Sprint(n)}}[:r.Intn(2)], somePayload(r, depth-1)...)...)
		}
	}
	return l
}

// P3: what is handed in stays as it is, and nothing of an answer lies in it.
func TestNothingShared(t *testing.T) {
	attrs := append(make([]api.Attr, 0, 4), api.Attr{Name: "x", Value: "1"})
	payload := append(make([]api.Token, 0, 8), api.Token{Kind: api.Begin, Name: "b", Attrs: attrs}, end("b"), api.Token{Kind: api.Begin, Name: "b", Attrs: attrs}, end("b"))
	before := fmt.Sprintf("%q", payload[:cap(payload)])
	s := api.Stanza{Kind: api.Iq, Type: "get", From: "a", To: "b", Id: "1", Payload: payload}
	l, _ := Encode(s)
	tokens := fmt.Sprintf("%q", l)
	d, _ := Decode(l)
	for i, answer := range [][]api.Token{d.Payload, Result(s, payload).Payload, l, Error(s, api.Conflict).Payload} {
		spoil(t, answer)
		if fmt.Sprintf("%q", payload[:cap(payload)]) != before || attrs[:2][1] != (api.Attr{}) {
			t.Errorf("answer %d lies in what was handed in", i)
		}
		if i == 0 && fmt.Sprintf("%q", l) != tokens {
			t.Error("Decode's answer lies in its tokens")
		}
	}
}

// spoil changes all of a list, and asks that no two lists in it are one.
func spoil(t *testing.T, l []api.Token) {
	t.Helper()
	for i := range l {
		for k := range l[i].Attrs {
			l[i].Attrs[k].Value = fmt.Sprint(i)
		}
		l[i].Attrs = append(l[i].Attrs, api.Attr{Name: "y", Value: fmt.Sprint(i)})
	}
	for i := range l {
		for _, a := range l[i].Attrs {
			if a.Value != fmt.Sprint(i) {
				t.Errorf("token %d: %q", i, l[i])
			}
		}
		l[i].Name = "spoilt"
	}
	_ = append(l, chars("spoilt"))
}
