package request

import (
	"math/rand"
	"reflect"
	"slices"
	"strings"
	"testing"

	"heliograph/api"
	"heliograph/write"
	"heliograph/xml"
)

// payloads are requests with their payloads, written out.
var payloads = []struct {
	r    api.Request
	text string
}{
	{api.Request{Verb: api.Create, Node: "n"}, "<pubsub><create node='n' type='leaf'/></pubsub>"},
	{api.Request{Verb: api.Create, Node: "n", Collection: true}, "<pubsub><create node='n' type='collection'/></pubsub>"},
	{api.Request{Verb: api.Remove, Node: "n"}, "<pubsub><remove node='n'/></pubsub>"},
	{api.Request{Verb: api.Configure, Node: "n"}, "<pubsub><configure node='n' access='open' max='0'/></pubsub>"},
	{api.Request{Verb: api.Configure, Node: "n", Access: api.Authorize, Max: 8}, "<pubsub><configure node='n' access='authorize' max='8'/></pubsub>"},
	{api.Request{Verb: api.Configure, Node: "n", Access: api.Whitelist, Max: 1}, "<pubsub><configure node='n' access='whitelist' max='1'/></pubsub>"},
	{api.Request{Verb: api.Subscribe, Node: "n"}, "<pubsub><subscribe node='n' depth='0'/></pubsub>"},
	{api.Request{Verb: api.Subscribe, Node: "n", Depth: 255}, "<pubsub><subscribe node='n' depth='255'/></pubsub>"},
	{api.Request{Verb: api.Unsubscribe, Node: "n"}, "<pubsub><unsubscribe node='n'/></pubsub>"},
	{api.Request{Verb: api.Approve, Node: "n", Jid: "a@d"}, "<pubsub><approve node='n' jid='a@d'/></pubsub>"},
	{api.Request{Verb: api.Deny, Node: "n", Jid: "d.e"}, "<pubsub><deny node='n' jid='d.e'/></pubsub>"},
	{api.Request{Verb: api.Affiliate, Node: "n", Jid: "a@d", Role: api.Outcast}, "<pubsub><affiliate node='n' jid='a@d' role='outcast'/></pubsub>"},
	{api.Request{Verb: api.Affiliate, Node: "n", Jid: "a@d", Role: api.NoRole}, "<pubsub><affiliate node='n' jid='a@d' role='none'/></pubsub>"},
	{api.Request{Verb: api.Affiliate, Node: "n", Jid: "a@d", Role: api.Member}, "<pubsub><affiliate node='n' jid='a@d' role='member'/></pubsub>"},
	{api.Request{Verb: api.Affiliate, Node: "n", Jid: "a@d", Role: api.Publisher}, "<pubsub><affiliate node='n' jid='a@d' role='publisher'/></pubsub>"},
	{api.Request{Verb: api.Affiliate, Node: "n", Jid: "a@d", Role: api.Owner}, "<pubsub><affiliate node='n' jid='a@d' role='owner'/></pubsub>"},
	{api.Request{Verb: api.Publish, Node: "n", Item: "i", Text: "a<b & 'c'"}, "<pubsub><publish node='n' item='i'>a&lt;b &amp; &apos;c&apos;</publish></pubsub>"},
	{api.Request{Verb: api.Publish, Node: "n", Item: "i"}, "<pubsub><publish node='n' item='i'/></pubsub>"},
	{api.Request{Verb: api.Retract, Node: "n", Item: "i"}, "<pubsub><retract node='n' item='i'/></pubsub>"},
	{api.Request{Verb: api.Purge, Node: "n"}, "<pubsub><purge node='n'/></pubsub>"},
	{api.Request{Verb: api.Items, Node: "n"}, "<pubsub><items node='n'/></pubsub>"},
	{api.Request{Verb: api.Associate, Node: "n", Parent: "p"}, "<pubsub><associate node='n' parent='p'/></pubsub>"},
	{api.Request{Verb: api.Dissociate, Node: "n"}, "<pubsub><dissociate node='n'/></pubsub>"},
	{api.Request{Verb: api.Nodes, Node: "n"}, "<pubsub><nodes node='n'/></pubsub>"},
	{api.Request{Verb: api.Nodes}, "<pubsub><nodes node=''/></pubsub>"},
}

// parse are the tokens of a text.
func parse(t *testing.T, s string) []api.Token {
	t.Helper()
	l, e := xml.New().Feed([]byte(s))
	if e != api.OK {
		t.Fatalf("%q: error %d", s, e)
	}
	return l
}

// P13.1, P13.3
func TestPayloads(t *testing.T) {
	for _, x := range payloads {
		l, e := Encode(x.r)
		if s, _ := write.Print(l); e != api.OK || s != x.text || !Right(x.r) {
			t.Errorf("%+v: %s, error %d, Right %v", x.r, s, e, Right(x.r))
		}
		if r, e := Decode(parse(t, x.text)); e != api.OK || r != x.r {
			t.Errorf("%s: %+v, error %d", x.text, r, e)
		}
	}
}

// holds holds one request against the second reading.
func holds(t *testing.T, r api.Request) bool {
	t.Helper()
	right := modelRight(r)
	if Right(r) != right {
		t.Errorf("Right(%+v): %v", r, !right)
		return right
	}
	l, e := Encode(r)
	if !right {
		if e != api.ErrForm || len(l) != 0 {
			t.Errorf("%+v: %.200q, error %d", r, l, e)
		}
		return false
	}
	if s, _ := write.Print(l); e != api.OK || s != modelText(r) || !write.Whole(l) {
		t.Errorf("%+v: %.200q, error %d", r, l, e)
	}
	if back, e := Decode(l); e != api.OK || back != r {
		t.Errorf("%+v comes back as %+v, error %d", r, back, e)
	}
	return true
}

var (
	someNames     = []string{"", "n", "-", "0", "abc-09", "N", "a.b", "a_b", "a b", "a/b", "\u00e9", "\xff", "n\x00", "n\n", strings.Repeat("z", 24), strings.Repeat("z", 25), strings.Repeat("\u00e9", 12)}
	someAddresses = []string{"", "d", "a@d", "a.b_c-1@d.e", "A@d", "a@D", "a@d/r", "d/r", "@d", "a@", "a@b@c", "a b@d", "\u00e9@d", "\xff", "a@d\n", strings.Repeat("d", 64), strings.Repeat("d", 65), "a@" + strings.Repeat("d", 62), "a@" + strings.Repeat("d", 63)}
	someNumbers   = []int{0, 1, 2, 7, 8, 9, 10, 254, 255, 256, 1000, -1, -8, -256, 1 << 31, 1<<63 - 1, -1 << 63}
	someTexts     = []string{"", "x", " ", "\t\n\r", "<&>'\"", "\u00e9\U0001f600", "\ufffd", "\x00", "a\x1f", "\x0b", "\xff", "\xc3", "\ufffe", "\uffff", "\xed\xa0\x80", strings.Repeat("x", 512), strings.Repeat("x", 513), strings.Repeat("\u00e9", 256), strings.Repeat("\u00e9", 257)}
)

// changes are requests that differ from one in one thing.
func changes(r api.Request) []api.Request {
	var l []api.Request
	add := func(change func(r *api.Request)) {
		x := r
		change(&x)
		l = append(l, x)
	}
	for _, s := range someNames {
		add(func(r *api.Request) { r.Node = s })
		add(func(r *api.Request) { r.Item = s })
		add(func(r *api.Request) { r.Parent = s })
	}
	for _, s := range someAddresses {
		add(func(r *api.Request) { r.Jid = s })
	}
	for _, n := range someNumbers {
		add(func(r *api.Request) { r.Max = n })
		add(func(r *api.Request) { r.Depth = n })
	}
	for n := range 256 {
		add(func(r *api.Request) { r.Verb = api.Verb(n) })
		add(func(r *api.Request) { r.Role = api.Role(n) })
		add(func(r *api.Request) { r.Access = api.Access(n) })
		add(func(r *api.Request) { r.Depth = n })
	}
	for _, s := range someTexts {
		add(func(r *api.Request) { r.Text = s })
	}
	add(func(r *api.Request) { r.Collection = !r.Collection })
	return l
}

// P13.1: each request with each thing changed: what a verb does not name must be zero, what it names must be right.
func TestRight(t *testing.T) {
	met := map[api.Verb][2]int{}
	for _, x := range payloads {
		for _, r := range changes(x.r) {
			n := met[r.Verb]
			if holds(t, r) {
				n[1]++
			} else {
				n[0]++
			}
			met[r.Verb] = n
		}
	}
	for v := api.Create; v <= api.Nodes; v++ {
		if met[v][0] < 100 || met[v][1] < 5 {
			t.Errorf("%s: met %v", Verb(v), met[v])
		}
	}
	if met[api.NoVerb][1] != 0 || met[16][1] != 0 {
		t.Error("a verb that is none")
	}
}

// P13.1, P13.3: requests of all kinds of things.
func TestRightRandom(t *testing.T) {
	rnd := rand.New(rand.NewSource(1))
	pick := func(l []string) string { return l[rnd.Intn(len(l))] }
	right := 0
	for range 200000 {
		r := api.Request{Verb: api.Verb(rnd.Intn(17))}
		for range rnd.Intn(4) {
			switch rnd.Intn(9) {
			case 0:
				r.Item = pick(someNames)
			case 1:
				r.Jid = pick(someAddresses)
			case 2:
				r.Role = api.Role(rnd.Intn(7))
			case 3:
				r.Access = api.Access(rnd.Intn(4))
			case 4:
				r.Max = rnd.Intn(12) - 1
			case 5:
				r.Depth = rnd.Intn(260) - 2
			case 6:
				r.Parent = pick(someNames)
			case 7:
				r.Collection = rnd.Intn(2) == 0
			case 8:
				r.Text = pick(someTexts)
			}
		}
		if rnd.Intn(4) > 0 {
			r.Node = pick(someNames)
		}
		if holds(t, r) {
			right++
		}
	}
	if right < 5000 {
		t.Error("right:", right)
	}
}

// decodes holds tokens against the second reading.
func decodes(t *testing.T, l []api.Token, payload bool) {
	t.Helper()
	r, e := Decode(l)
	if !payload {
		if e != api.ErrForm || r != (api.Request{}) {
			t.Errorf("%.300q: %+v, error %d", l, r, e)
		}
		return
	}
	if e != api.OK || !Right(r) {
		t.Errorf("%.300q: %+v, error %d", l, r, e)
		return
	}
	if again, e := Encode(r); e != api.OK || !write.Same(again, l) {
		t.Errorf("%.300q again: %.300q, error %d", l, again, e)
	}
}

// clone is a list that shares nothing.
func clone(l []api.Token) []api.Token {
	l = slices.Clone(l)
	for i := range l {
		l[i].Attrs = slices.Clone(l[i].Attrs)
	}
	return l
}

// P13.1: texts that are no payloads, or are.
func TestDecode(t *testing.T) {
	forms := modelForms()
	for text, want := range map[string]bool{
		"<pubsub><subscribe node='n' depth='0'/></pubsub>":                    true,
		"<pubsub><subscribe node='n' depth='00'/></pubsub>":                   false,
		"<pubsub><subscribe node='n' depth='01'/></pubsub>":                   false,
		"<pubsub><subscribe node='n' depth='+1'/></pubsub>":                   false,
		"<pubsub><subscribe node='n' depth='-1'/></pubsub>":                   false,
		"<pubsub><subscribe node='n' depth='-0'/></pubsub>":                   false,
		"<pubsub><subscribe node='n' depth=' 1'/></pubsub>":                   false,
		"<pubsub><subscribe node='n' depth='1_0'/></pubsub>":                  false,
		"<pubsub><subscribe node='n' depth='0x1'/></pubsub>":                  false,
		"<pubsub><subscribe node='n' depth=''/></pubsub>":                     false,
		"<pubsub><subscribe node='n' depth='256'/></pubsub>":                  false,
		"<pubsub><subscribe node='n' depth='99999999999999999999'/></pubsub>": false,
		"<pubsub><subscribe node='n' depth='18446744073709551616'/></pubsub>": false,
		"<pubsub><subscribe node='n'/></pubsub>":                              false,
		"<pubsub><subscribe depth='0' node='n'/></pubsub>":                    false,
		"<pubsub><subscribe node='n' depth='0' x='y'/></pubsub>":              false,
		"<pubsub><subscribe node='n' depth='0' item=''/></pubsub>":            false,
		"<pubsub><subscribe node='n' item='' depth='0'/></pubsub>":            false,
		"<pubsub><subscribe node='n' depth='0' type='leaf'/></pubsub>":        false,
		"<pubsub><subscribe node='n' depth='0'>x</subscribe></pubsub>":        false,
		"<pubsub><subscribe node='n' depth='0'><x/></subscribe></pubsub>":     false,
		"<pubsub><subscribe node='n' depth='0'/>x</pubsub>":                   false,
		"<pubsub> <subscribe node='n' depth='0'/></pubsub>":                   false,
		"<pubsub><subscribe node='n' depth='0'/><purge node='n'/></pubsub>":   false,
		"<pubsub x='y'><subscribe node='n' depth='0'/></pubsub>":              false,
		"<event><subscribe node='n' depth='0'/></event>":                      false,
		"<Pubsub><subscribe node='n' depth='0'/></Pubsub>":                    false,
		"<pubsub><Subscribe node='n' depth='0'/></pubsub>":                    false,
		"<pubsub><subscribes node='n' depth='0'/></pubsub>":                   false,
		"<pubsub/>":                                                         false,
		"<subscribe node='n' depth='0'/>":                                   false,
		"<pubsub>subscribe</pubsub>":                                        false,
		"<pubsub><pubsub><purge node='n'/></pubsub></pubsub>":               false,
		"<pubsub><configure node='n' access='whitelist' max='8'/></pubsub>": true,
		"<pubsub><configure node='n' access='whitelist' max='9'/></pubsub>": false,
		"<pubsub><configure node='n' access='' max='1'/></pubsub>":          false,
		"<pubsub><configure node='n' access='Open' max='1'/></pubsub>":      false,
		"<pubsub><configure node='n' access='outcast' max='1'/></pubsub>":   false,
		"<pubsub><configure node='n' max='1' access='open'/></pubsub>":      false,
		"<pubsub><configure node='n' max='1'/></pubsub>":                    false,
		"<pubsub><create node='n' type='leaf'/></pubsub>":                   true,
		"<pubsub><create node='n' type=''/></pubsub>":                       false,
		"<pubsub><create node='n' type='node'/></pubsub>":                   false,
		"<pubsub><create node='n' type='true'/></pubsub>":                   false,
		"<pubsub><create node='n'/></pubsub>":                               false,
		"<pubsub><create node='' type='leaf'/></pubsub>":                    false,
		"<pubsub><affiliate node='n' jid='a@d' role='none'/></pubsub>":      true,
		"<pubsub><affiliate node='n' jid='a@d' role=''/></pubsub>":          false,
		"<pubsub><affiliate node='n' jid='a@d' role='Owner'/></pubsub>":     false,
		"<pubsub><affiliate node='n' jid='a@d' role='open'/></pubsub>":      false,
		"<pubsub><affiliate node='n' jid='a@d'/></pubsub>":                  false,
		"<pubsub><affiliate node='n' jid='a@d/r' role='none'/></pubsub>":    false,
		"<pubsub><affiliate node='n' jid='' role='none'/></pubsub>":         false,
		"<pubsub><affiliate node='n' role='none' jid='a@d'/></pubsub>":      false,
		"<pubsub><publish node='n' item='i'> </publish></pubsub>":           true,
		"<pubsub><publish node='n' item='i'><x/></publish></pubsub>":        false,
		"<pubsub><publish node='n' item='i'>x<x/></publish></pubsub>":       false,
		"<pubsub><publish node='n' item=''>x</publish></pubsub>":            false,
		"<pubsub><publish item='i' node='n'>x</publish></pubsub>":           false,
		"<pubsub><publish node='n' item='i' text='x'/></pubsub>":            false,
		"<pubsub><retract node='n' item='i'>x</retract></pubsub>":           false,
		"<pubsub><nodes node=''/></pubsub>":                                 true,
		"<pubsub><nodes/></pubsub>":                                         false,
		"<pubsub><items node=''/></pubsub>":                                 false,
	} {
		l := parse(t, text)
		if modelPayload(forms, l) != want {
			t.Fatalf("the second reading of %s", text)
		}
		decodes(t, l, want)
	}
}

// P13.1: the beginnings of payloads, and what is no list of tokens at all.
func TestDecodeTooFew(t *testing.T) {
	decodes(t, nil, false)
	decodes(t, []api.Token{}, false)
	decodes(t, []api.Token{{}}, false)
	for _, x := range payloads {
		l := parse(t, x.text)
		for n := range l {
			decodes(t, l[:n], false)
			decodes(t, l[n+1:], false)
			// Without its text what is published is still a payload.
			decodes(t, slices.Concat(l[:n], l[n+1:]), l[n].Kind == api.Chars)
			decodes(t, slices.Concat(l[:n], l[n:n+1], l[n:]), false)
		}
		decodes(t, slices.Concat(l, l), false)
	}
}

// spoil changes one small thing of tokens.
func spoil(rnd *rand.Rand, l []api.Token) []api.Token {
	l = clone(l)
	words := []string{"", "n", "node", "item", "jid", "role", "access", "max", "depth", "parent", "type", "pubsub", "leaf", "collection", "open", "whitelist", "owner", "none", "0", "1", "07", "255", "256", "a@d", "A@d", "x", "\xff", "publish", "retract", "purge", "nodes", "items", "create", "approve", "deny"}
	word := func() string { return words[rnd.Intn(len(words))] }
	at := rnd.Intn(len(l))
	t := &l[at]
	switch rnd.Intn(12) {
	case 0:
		t.Name = word()
	case 1:
		t.Text = word()
	case 2:
		t.Kind = api.TokenKind(rnd.Intn(5))
	case 3:
		t.Attrs = append(t.Attrs, api.Attr{Name: word(), Value: word()})
	case 4, 5, 6:
		if len(t.Attrs) > 0 {
			t.Attrs[rnd.Intn(len(t.Attrs))].Value = word()
		}
	case 7:
		if len(t.Attrs) > 0 {
			t.Attrs[rnd.Intn(len(t.Attrs))].Name = word()
		}
	case 8:
		if len(t.Attrs) > 0 {
			t.Attrs = t.Attrs[1:]
		}
	case 9:
		if len(t.Attrs) > 1 {
			i := rnd.Intn(len(t.Attrs) - 1)
			t.Attrs[i], t.Attrs[i+1] = t.Attrs[i+1], t.Attrs[i]
		}
	case 10:
		// Both ends of the inner element, so that the tokens stay balanced.
		name := word()
		l[1].Name, l[len(l)-2].Name = name, name
	case 11:
		l = slices.Insert(l, at, api.Token{Kind: api.Chars, Text: word()})
	}
	return l
}

// P13.1, P13.3: payloads with one or two things changed.
func TestDecodeSpoilt(t *testing.T) {
	rnd := rand.New(rand.NewSource(2))
	forms := modelForms()
	var met [2]int
	for _, x := range payloads {
		for range 6000 {
			l := spoil(rnd, parse(t, x.text))
			if rnd.Intn(2) == 0 {
				l = spoil(rnd, l)
			}
			payload := modelPayload(forms, l)
			decodes(t, l, payload)
			if payload {
				met[1]++
			} else {
				met[0]++
			}
		}
	}
	if met[0] < 1000 || met[1] < 1000 {
		t.Error("met:", met)
	}
}

// P13.1
func TestGet(t *testing.T) {
	for v := range 256 {
		for _, r := range []api.Request{{Verb: api.Verb(v)}, {Verb: api.Verb(v), Node: "n", Max: -1}} {
			if Get(r) != (v == 12 || v == 15) {
				t.Errorf("%+v: %v", r, Get(r))
			}
		}
	}
}

// P13.1
func TestVerb(t *testing.T) {
	for v := range 256 {
		want := ""
		if v < len(modelNames) {
			want = modelNames[v].verb
		}
		if Verb(api.Verb(v)) != want {
			t.Errorf("%d: %q", v, Verb(api.Verb(v)))
		}
	}
}

// spare is a list with room behind its end, and a way to see that nothing was put there.
func spare[T any](l []T, mark T) (list []T, untouched func() bool) {
	room := append(slices.Clone(l), mark, mark)
	before := slices.Clone(room)
	return room[:len(l)], func() bool { return reflect.DeepEqual(room, before) }
}

// P3: what is handed in stays, and what is answered is the caller's.
func TestSharing(t *testing.T) {
	for _, x := range payloads {
		l := parse(t, x.text)
		for i := range l {
			l[i].Attrs = append(l[i].Attrs, api.Attr{Name: "mark"})[:len(l[i].Attrs)]
		}
		given, untouched := spare(l, api.Token{Name: "mark"})
		if _, e := Decode(given); e != api.OK || !untouched() {
			t.Errorf("%s: error %d, or changed", x.text, e)
		}
		a, _ := Encode(x.r)
		b, _ := Encode(x.r)
		for i := range a {
			if len(a[i].Attrs) > 0 {
				a[i].Attrs[0].Value = "spoilt"
			}
			a[i].Text = "spoilt"
		}
		if !write.Same(b, l) {
			t.Errorf("%s: two answers share something", x.text)
		}
	}
}
