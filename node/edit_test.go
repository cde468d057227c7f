package node

import (
	"math/rand"
	"reflect"
	"slices"
	"strings"
	"testing"

	"heliograph/api"
)

// spare is the same node, with room behind the ends of its lists, and what stands there.
func spare(n api.Node) (api.Node, func() bool) {
	a := append(slices.Clone(n.Affs), api.Aff{Jid: "spare"}, api.Aff{Jid: "room"})
	s := append(slices.Clone(n.Subs), api.Sub{Jid: "spare"}, api.Sub{Jid: "room"})
	i := append(slices.Clone(n.Items), api.Item{Id: "spare"}, api.Item{Id: "room"})
	a0, s0, i0 := slices.Clone(a), slices.Clone(s), slices.Clone(i)
	n.Affs, n.Subs, n.Items = a[:len(n.Affs)], s[:len(n.Subs)], i[:len(n.Items)]
	return n, func() bool { return slices.Equal(a, a0) && slices.Equal(s, s0) && slices.Equal(i, i0) }
}

// spoil writes all over the lists of a node, and over the room behind them.
func spoil(n api.Node) {
	for i := range n.Affs[:cap(n.Affs)] {
		n.Affs[:cap(n.Affs)][i] = api.Aff{Jid: "spoilt"}
	}
	for i := range n.Subs[:cap(n.Subs)] {
		n.Subs[:cap(n.Subs)][i] = api.Sub{Jid: "spoilt"}
	}
	for i := range n.Items[:cap(n.Items)] {
		n.Items[:cap(n.Items)][i] = api.Item{Id: "spoilt"}
	}
}

// acts does one thing, and holds it against the document: what is answered, that it is right, and that nothing is shared.
func acts(t *testing.T, n api.Node, a act) (api.Node, api.Cond) {
	t.Helper()
	want, cond := a.model(n)
	handed, kept := spare(n)
	got, c := a.do(handed)
	if c != cond || modelText(got) != modelText(want) {
		t.Fatalf("%+v\nof %+v:\n%+v, %d; want\n%+v, %d", a, n, got, c, want, cond)
	}
	if c == api.NoCond && !Right(got) {
		t.Fatalf("%+v\nof %+v: not right: %+v", a, n, got)
	}
	if c != api.NoCond && !reflect.DeepEqual(got, api.Node{}) {
		t.Fatalf("%+v: beside a condition: %+v", a, got)
	}
	spoil(got)
	if !kept() {
		t.Fatalf("%+v\nof %+v: what was handed in has changed", a, n)
	}
	got, _ = a.do(handed)
	spoil(handed)
	if modelText(got) != modelText(want) {
		t.Fatalf("%+v: what is answered lies in what was handed in", a)
	}
	return got, c
}

// step is an act, and the condition that it has.
type step struct {
	act
	want api.Cond
}

func runs(t *testing.T, n api.Node, l []step) api.Node {
	t.Helper()
	for _, s := range l {
		got, c := acts(t, n, s.act)
		if c != s.want {
			t.Errorf("%+v: %d", s.act, c)
		}
		if c == api.NoCond {
			n = got
		}
	}
	return n
}

func subscribe(jid string, depth int) act { return act{call: "subscribe", jid: jid, depth: depth} }
func decide(by, jid string, yes bool) act { return act{call: "decide", by: by, jid: jid, yes: yes} }
func affiliate(by, jid string, r api.Role) act {
	return act{call: "affiliate", by: by, jid: jid, role: r}
}
func publish(by, item, txt string) act { return act{call: "publish", by: by, item: item, txt: txt} }
func configure(by string, a api.Access, most int) act {
	return act{call: "configure", by: by, access: a, depth: most}
}

// P11.2: of a node that is not right each call answers BadRequest, whatever else applies.
func TestWrongNodes(t *testing.T) {
	for _, n := range variants() {
		for _, call := range calls {
			for _, by := range []string{"o@d", "nobody@d"} {
				_, c := acts(t, n, act{call: call, by: by, jid: "s@d", item: "i", role: api.Member})
				if !modelRight(n) && c != api.BadRequest {
					t.Errorf("%s of %+v: %d", call, n, c)
				}
			}
		}
	}
}

// P11.2: Subscribe, by access and role.
func TestSubscribe(t *testing.T) {
	for access := range api.Access(3) {
		n := sample()
		n.Subs, n.Access = nil, access
		stranger := [...]api.Cond{api.NoCond, api.NoCond, api.NotAllowed}[access]
		n = runs(t, n, []step{
			{subscribe("a@d", 0), api.Forbidden}, {subscribe("x@d", 1), stranger}, {subscribe("m@d", 2), api.NoCond}, {subscribe("p@d", 3), api.NoCond}, {subscribe("o@d", 255), api.NoCond},
			{subscribe("x@d", 256), api.BadRequest}, {subscribe("x@d", -1), api.BadRequest}, {subscribe("", 0), api.BadRequest}, {subscribe("X@d", 0), api.BadRequest}, {subscribe("x@d/r", 0), api.BadRequest},
			{subscribe("a@d", 256), api.BadRequest}, {subscribe("a@d/r", 0), api.BadRequest},
		})
		want := []api.Sub{{Jid: "m@d", Depth: 2}, {Jid: "o@d", Depth: 255}, {Jid: "p@d", Depth: 3}}
		if stranger == api.NoCond {
			want = append(want, api.Sub{Jid: "x@d", Depth: 1, Pending: access == api.Authorize})
		}
		if !slices.Equal(n.Subs, want) {
			t.Errorf("%d: %+v", access, n.Subs)
		}
	}
}

// P11.2: who has a Sub gets another Depth, and stays as it is; who waits goes on waiting, whatever its role is now.
func TestSubscribeAgain(t *testing.T) {
	n := runs(t, sample(), []step{{subscribe("s@d", 7), api.NoCond}, {subscribe("w@d", 7), api.NotAuthorized}, {affiliate("o@d", "w@d", api.Member), api.NoCond}, {subscribe("w@d", 7), api.NotAuthorized},
		{affiliate("o@d", "w@d", api.Outcast), api.NoCond}, {subscribe("w@d", 7), api.Forbidden}})
	if !slices.Equal(n.Subs, []api.Sub{{Jid: "m@d"}, {Jid: "s@d", Depth: 7}}) {
		t.Errorf("%+v", n.Subs)
	}
	n = runs(t, sample(), []step{{configure("o@d", api.Whitelist, 3), api.NoCond}, {subscribe("s@d", 7), api.NotAllowed}, {subscribe("w@d", 7), api.NotAllowed}, {subscribe("m@d", 9), api.NoCond}})
	if n.Subs[0] != (api.Sub{Jid: "m@d", Depth: 9}) {
		t.Errorf("%+v", n.Subs)
	}
}

// P11.2: MaxPeople Subs; who has one may still have another Depth.
func TestSubscribeFull(t *testing.T) {
	n := sample()
	n.Access, n.Subs = api.Open, subs(15)
	n = runs(t, n, []step{{subscribe("t@d", 0), api.NoCond}, {subscribe("z@d", 0), api.ResourceConstraint}, {subscribe("a@d", 0), api.Forbidden}, {subscribe("z@d", -1), api.BadRequest},
		{subscribe("u100@d", 9), api.NoCond}, {act{call: "unsubscribe", jid: "u101@d"}, api.NoCond}, {subscribe("z@d", 0), api.NoCond}, {subscribe("y@d", 0), api.ResourceConstraint}})
	if len(n.Subs) != 16 || n.Subs[0].Jid != "t@d" || n.Subs[1] != (api.Sub{Jid: "u100@d", Depth: 9}) || n.Subs[15].Jid != "z@d" {
		t.Errorf("%+v", n.Subs)
	}
}

// P11.2: Unsubscribe, also of who waits.
func TestUnsubscribe(t *testing.T) {
	n := runs(t, sample(), []step{{act{call: "unsubscribe", jid: "x@d"}, api.UnexpectedRequest}, {act{call: "unsubscribe", jid: ""}, api.UnexpectedRequest}, {act{call: "unsubscribe", jid: "S@d"}, api.UnexpectedRequest},
		{act{call: "unsubscribe", jid: "s@d"}, api.NoCond}, {act{call: "unsubscribe", jid: "s@d"}, api.UnexpectedRequest}, {act{call: "unsubscribe", jid: "w@d"}, api.NoCond}})
	if !slices.Equal(n.Subs, []api.Sub{{Jid: "m@d"}}) {
		t.Errorf("%+v", n.Subs)
	}
}

// P11.3: Decide; the document's example.
func TestDecide(t *testing.T) {
	n := sample()
	n.Subs = nil
	n = runs(t, n, []step{{subscribe("x@d", 4), api.NoCond}})
	if s, _ := Sub(n, "x@d"); !s.Pending || Reads(n, "x@d") {
		t.Errorf("%+v", s)
	}
	yes := runs(t, n, []step{{decide("p@d", "x@d", true), api.Forbidden}, {decide("", "x@d", true), api.Forbidden}, {decide("x@d", "x@d", true), api.Forbidden}, {decide("p@d", "z@d", true), api.Forbidden},
		{decide("o@d", "z@d", true), api.ItemNotFound}, {decide("o@d", "", true), api.ItemNotFound}, {decide("o@d", "x@d", true), api.NoCond}, {decide("o@d", "x@d", false), api.ItemNotFound}, {decide("o@d", "x@d", true), api.ItemNotFound}})
	if !slices.Equal(yes.Subs, []api.Sub{{Jid: "x@d", Depth: 4}}) || !Reads(yes, "x@d") {
		t.Errorf("%+v", yes.Subs)
	}
	no := runs(t, n, []step{{decide("o@d", "x@d", false), api.NoCond}, {decide("o@d", "x@d", false), api.ItemNotFound}, {subscribe("x@d", 5), api.NoCond}})
	if !slices.Equal(no.Subs, []api.Sub{{Jid: "x@d", Depth: 5, Pending: true}}) {
		t.Errorf("%+v", no.Subs)
	}
}

// P11.3: Affiliate, all roles, and what is wrong, in the document's order.
func TestAffiliate(t *testing.T) {
	n := runs(t, sample(), []step{
		{affiliate("p@d", "x@d", api.Member), api.Forbidden}, {affiliate("p@d", "", 9), api.Forbidden}, {affiliate("", "x@d", api.Member), api.Forbidden},
		{affiliate("o@d", "", api.Member), api.BadRequest}, {affiliate("o@d", "X@d", api.Member), api.BadRequest}, {affiliate("o@d", "x@d/r", api.Member), api.BadRequest},
		{affiliate("o@d", "x@d", 0), api.BadRequest}, {affiliate("o@d", "x@d", 6), api.BadRequest}, {affiliate("o@d", "o@d", 0), api.BadRequest}, {affiliate("o@d", "x@d", 255), api.BadRequest},
		{affiliate("o@d", "o@d", api.Publisher), api.Conflict}, {affiliate("o@d", "o@d", api.NoRole), api.Conflict}, {affiliate("o@d", "o@d", api.Outcast), api.Conflict}, {affiliate("o@d", "o@d", api.Owner), api.NoCond},
		{affiliate("o@d", "x@d", api.NoRole), api.NoCond}, {affiliate("o@d", "m@d", api.NoRole), api.NoCond}, {affiliate("o@d", "b@d", api.Publisher), api.NoCond}, {affiliate("o@d", "p@d", api.Owner), api.NoCond},
		{affiliate("p@d", "o@d", api.Member), api.NoCond}, {affiliate("o@d", "o@d", api.Owner), api.Forbidden}, {affiliate("p@d", "p@d", api.Member), api.Conflict},
	})
	want := []api.Aff{{Jid: "a@d", Role: api.Outcast}, {Jid: "b@d", Role: api.Publisher}, {Jid: "o@d", Role: api.Member}, {Jid: "p@d", Role: api.Owner}}
	if !slices.Equal(n.Affs, want) || !slices.Equal(n.Subs, sample().Subs) {
		t.Errorf("%+v, %+v", n.Affs, n.Subs)
	}
}

// P11.3, P11.7: an Outcast loses its Sub, and gets none.
func TestOutcast(t *testing.T) {
	n := runs(t, sample(), []step{{affiliate("o@d", "s@d", api.Outcast), api.NoCond}, {affiliate("o@d", "w@d", api.Outcast), api.NoCond}, {affiliate("o@d", "m@d", api.Outcast), api.NoCond},
		{affiliate("o@d", "nobody@d", api.Outcast), api.NoCond}, {subscribe("s@d", 0), api.Forbidden}})
	if len(n.Subs) != 0 || len(n.Affs) != 7 || Reads(n, "s@d") || Role(n, "w@d") != api.Outcast {
		t.Errorf("%+v", n)
	}
}

// P11.3: MaxPeople Affs; those that are there may have another role.
func TestAffiliateFull(t *testing.T) {
	n := sample()
	n.Affs = affs(15)
	n = runs(t, n, []step{{affiliate("u100@d", "a@d", api.Member), api.NoCond}, {affiliate("u100@d", "b@d", api.Member), api.ResourceConstraint}, {affiliate("u100@d", "b@d", api.Outcast), api.ResourceConstraint},
		{affiliate("u100@d", "b@d", api.NoRole), api.NoCond}, {affiliate("u100@d", "a@d", api.Outcast), api.NoCond}, {affiliate("u100@d", "b@d", 7), api.BadRequest}, {affiliate("u100@d", "u101@d", api.NoRole), api.NoCond},
		{affiliate("u100@d", "b@d", api.Member), api.NoCond}, {affiliate("u100@d", "s@d", api.Outcast), api.ResourceConstraint}})
	if len(n.Affs) != 16 || n.Affs[1].Jid != "b@d" || !slices.Equal(n.Subs, sample().Subs) {
		t.Errorf("%+v", n)
	}
}

// P11.4: Publish.
func TestPublish(t *testing.T) {
	full := strings.Repeat("x", 512)
	n := runs(t, sample(), []step{
		{publish("m@d", "k", ""), api.Forbidden}, {publish("a@d", "k", ""), api.Forbidden}, {publish("nobody@d", "", "\x00"), api.Forbidden}, {publish("", "k", ""), api.Forbidden},
		{publish("p@d", "", ""), api.BadRequest}, {publish("p@d", "K", ""), api.BadRequest}, {publish("p@d", strings.Repeat("k", 25), ""), api.BadRequest}, {publish("p@d", "k", "\x00"), api.BadRequest}, {publish("p@d", "k", full+"x"), api.BadRequest},
		{publish("p@d", "k", full), api.NoCond}, {publish("p@d", "j", "\u00e9"), api.NoCond}, {publish("o@d", strings.Repeat("l", 24), ""), api.NoCond},
	})
	want := []api.Item{{Id: "k", Publisher: "p@d", Text: full}, {Id: "j", Publisher: "p@d", Text: "\u00e9"}, {Id: strings.Repeat("l", 24), Publisher: "o@d"}}
	if !slices.Equal(n.Items, want) {
		t.Errorf("%+v", n.Items)
	}
	runs(t, collection(), []step{{publish("o@d", "k", ""), api.NotAllowed}, {publish("nobody@d", "", "\x00"), api.NotAllowed}, {act{call: "retract", by: "nobody@d"}, api.NotAllowed}, {act{call: "purge", by: "nobody@d"}, api.NotAllowed}})
}

// P11.4: where no item is kept, none is; where one is, the last one.
func TestPublishOfFew(t *testing.T) {
	n := sample()
	n.Max, n.Items = 0, nil
	if n = runs(t, n, []step{{publish("o@d", "k", "x"), api.NoCond}}); len(n.Items) != 0 {
		t.Errorf("%+v", n.Items)
	}
	n.Max = 1
	if n = runs(t, n, []step{{publish("o@d", "k", "x"), api.NoCond}, {publish("o@d", "k", "y"), api.NoCond}, {publish("p@d", "l", "z"), api.NoCond}}); !slices.Equal(n.Items, []api.Item{{Id: "l", Publisher: "p@d", Text: "z"}}) {
		t.Errorf("%+v", n.Items)
	}
	n.Max, n.Items = 8, items(8)
	if n = runs(t, n, []step{{publish("o@d", "i3", "again"), api.NoCond}}); len(n.Items) != 8 || n.Items[0].Id != "i0" || n.Items[3].Id != "i4" || n.Items[7].Text != "again" {
		t.Errorf("%+v", n.Items)
	}
}

// P11.4: Retract and Purge.
func TestRetractAndPurge(t *testing.T) {
	retract := func(by, item string) act { return act{call: "retract", by: by, item: item} }
	n := runs(t, sample(), []step{{retract("m@d", "i"), api.Forbidden}, {retract("m@d", "z"), api.Forbidden}, {retract("p@d", "z"), api.ItemNotFound}, {retract("p@d", ""), api.ItemNotFound}, {retract("o@d", "I"), api.ItemNotFound}, {retract("p@d", "i"), api.NoCond}, {retract("o@d", "i"), api.ItemNotFound}})
	if !slices.Equal(n.Items, sample().Items[1:]) {
		t.Errorf("%+v", n.Items)
	}
	n = runs(t, n, []step{{act{call: "purge", by: "p@d"}, api.Forbidden}, {act{call: "purge", by: ""}, api.Forbidden}, {act{call: "purge", by: "o@d"}, api.NoCond}, {act{call: "purge", by: "o@d"}, api.NoCond}})
	if len(n.Items) != 0 || n.Max != 3 {
		t.Errorf("%+v", n)
	}
}

// P11.4: Configure.
func TestConfigure(t *testing.T) {
	n := sample()
	n.Max, n.Items = 8, items(8)
	n = runs(t, n, []step{{configure("p@d", api.Open, 8), api.Forbidden}, {configure("", 9, 9), api.Forbidden}, {configure("o@d", 3, 8), api.BadRequest}, {configure("o@d", 255, 8), api.BadRequest}, {configure("o@d", 0, 9), api.BadRequest},
		{configure("o@d", 0, -1), api.BadRequest}, {configure("o@d", 0, -1<<63), api.BadRequest}, {configure("o@d", 0, 1<<63-1), api.BadRequest}, {configure("o@d", api.Whitelist, 3), api.NoCond}, {configure("o@d", api.Whitelist, 8), api.NoCond}})
	if n.Access != api.Whitelist || n.Max != 8 || !slices.Equal(n.Items, items(8)[5:]) || !slices.Equal(n.Subs, sample().Subs) {
		t.Errorf("%+v", n)
	}
	if n = runs(t, n, []step{{configure("o@d", api.Open, 0), api.NoCond}}); len(n.Items) != 0 || n.Max != 0 {
		t.Errorf("%+v", n)
	}
	n = runs(t, collection(), []step{{configure("o@d", api.Authorize, 0), api.NoCond}, {configure("o@d", api.Open, 1), api.BadRequest}, {configure("m@d", api.Open, 1), api.Forbidden}})
	if n.Access != api.Authorize || !n.Collection {
		t.Errorf("%+v", n)
	}
}

func pick[T any](r *rand.Rand, l ...T) T { return l[r.Intn(len(l))] }

// randomAct is mostly a right one.
func randomAct(r *rand.Rand) act {
	a := act{call: pick(r, calls...), by: pick(r, "o@d", "o@d", "p@d", "q@d"), jid: pick(r, append(crowd(20), "o@d", "p@d", "q@d")...), yes: r.Intn(2) == 0}
	a.depth, a.role, a.access = pick(r, 0, 1, 2, 7, 8), api.Role(1+r.Intn(5)), api.Access(r.Intn(3))
	a.item, a.txt = pick(r, "a", "b", "c", "d", "e", "f", "g", "h", "i", "j"), pick(r, "", "x", "\u00e9")
	switch r.Intn(40) {
	case 0:
		a.by = pick(r, someAddresses()...)
	case 1:
		a.jid = pick(r, someAddresses()...)
	case 2:
		a.depth = pick(r, -1, 9, 255, 256)
	case 3:
		a.role = api.Role(r.Intn(256))
	case 4:
		a.access = api.Access(r.Intn(256))
	case 5:
		a.item = pick(r, someNames()...)
	case 6:
		a.txt = pick(r, someTexts()...)
	}
	return a
}

// P11.2 to P11.7: long ways of a node, held against the second reading at each step.
func TestWays(t *testing.T) {
	r := rand.New(rand.NewSource(6))
	met := map[string]map[api.Cond]int{}
	for _, c := range calls {
		met[c] = map[api.Cond]int{}
	}
	for way := range 60 {
		n := sample()
		if way%4 == 0 {
			n = collection()
		}
		for range 500 {
			a := randomAct(r)
			got, c := acts(t, n, a)
			met[a.call][c]++
			if c != api.NoCond {
				continue
			}
			if a.call == "subscribe" && Role(n, a.jid) == api.Outcast {
				t.Fatal("an Outcast subscribed")
			}
			n = got
			if !hasOwner(n.Affs) || !decodes(t, modelText(n)) {
				t.Fatalf("%+v", n)
			}
			for _, jid := range crowd(20) {
				if Reads(n, jid) != modelOf(n).reads(jid) {
					t.Fatalf("%q reads %+v", jid, n)
				}
			}
		}
	}
	for call, conds := range map[string][]api.Cond{
		"subscribe": {0, api.BadRequest, api.Forbidden, api.NotAllowed, api.NotAuthorized, api.ResourceConstraint}, "unsubscribe": {0, api.UnexpectedRequest}, "decide": {0, api.Forbidden, api.ItemNotFound},
		"affiliate": {0, api.Forbidden, api.BadRequest, api.Conflict, api.ResourceConstraint}, "publish": {0, api.NotAllowed, api.Forbidden, api.BadRequest}, "retract": {0, api.NotAllowed, api.Forbidden, api.ItemNotFound},
		"purge": {0, api.NotAllowed, api.Forbidden}, "configure": {0, api.Forbidden, api.BadRequest},
	} {
		for _, c := range conds {
			if met[call][c] < 5 {
				t.Errorf("%s has the condition %d only %d times", call, c, met[call][c])
			}
		}
	}
}
