package collect

import (
	"fmt"
	"math/rand"
	"slices"
	"strings"
	"testing"

	"heliograph/api"
	"heliograph/node"
)

// told holds Fan against names, parted by blanks.
func told(t *testing.T, nodes []api.Node, name, want string) {
	t.Helper()
	if got := strings.Join(Fan(nodes, name), " "); got != want {
		t.Errorf("%q; want %q", got, want)
	}
}

func subscribed(depths ...int) []api.Sub {
	var l []api.Sub
	for _, d := range depths {
		l = append(l, api.Sub{Jid: fmt.Sprintf("s%d@d", d), Depth: d})
	}
	return l
}

// P12.3: the document's example.
func TestFanExample(t *testing.T) {
	c := api.Node{Name: "c", Collection: true, Subs: subscribed(1)}
	told(t, []api.Node{{Name: "n", Parent: "c"}, c}, "n", "s1@d")
	told(t, []api.Node{{Name: "n", Parent: "m"}, {Name: "m", Parent: "c"}, c}, "n", "")
	told(t, []api.Node{{Name: "n", Parent: "m"}, {Name: "m", Parent: "c"}, c}, "m", "s1@d")
}

// P12.3: how far Subs reach; of the node itself all do.
func TestFanDepths(t *testing.T) {
	subs := subscribed(0, 1, 2, 3, 255, -1)
	nodes := []api.Node{{Name: "n0", Parent: "n1"}, {Name: "n1", Parent: "n2"}, {Name: "n2", Parent: "n3"}, {Name: "n3", Parent: "n4"}, {Name: "n4", Parent: "nowhere"}}
	for at, want := range []string{"s-1@d s0@d s1@d s255@d s2@d s3@d", "s0@d s1@d s255@d s2@d s3@d", "s0@d s255@d s2@d s3@d", "s0@d s255@d s3@d", "s0@d s255@d"} {
		l := slices.Clone(nodes)
		l[at].Subs = subs
		told(t, l, "n0", want)
		slices.Reverse(l)
		told(t, l, "n0", want)
	}
}

// P12.3: who waits is not told, at no node.
func TestFanPending(t *testing.T) {
	nodes := []api.Node{{Name: "n", Parent: "c", Subs: []api.Sub{{Jid: "a@d", Pending: true}, {Jid: "b@d"}}}, {Name: "c", Subs: []api.Sub{{Jid: "b@d", Pending: true}, {Jid: "c@d", Pending: true}, {Jid: "d@d"}}}}
	told(t, nodes, "n", "b@d d@d")
	told(t, nodes, "c", "d@d")
}

// P12.3: each once, rising, wherever it subscribed.
func TestFanOnce(t *testing.T) {
	nodes := []api.Node{{Name: "n", Parent: "c", Subs: []api.Sub{{Jid: "z@d"}, {Jid: "b@d"}, {Jid: "z@d"}}}, {Name: "c", Parent: "k", Subs: []api.Sub{{Jid: "b@d"}, {Jid: "Z@d"}, {Jid: "z@d"}}}, {Name: "k", Subs: []api.Sub{{Jid: "b@d"}, {Jid: "a@d"}}}}
	told(t, nodes, "n", "Z@d a@d b@d z@d")
}

// P12.3, P12.5: who may not read the node itself is not told, whoever may read the collection.
func TestFanReads(t *testing.T) {
	affs := []api.Aff{{Jid: "m@d", Role: api.Member}, {Jid: "o@d", Role: api.Owner}, {Jid: "x@d", Role: api.Outcast}}
	everybody := []api.Sub{{Jid: "m@d"}, {Jid: "o@d"}, {Jid: "s@d"}, {Jid: "x@d"}}
	for access, want := range []string{"m@d o@d s@d", "m@d o@d", "m@d o@d"} {
		n := api.Node{Name: "n", Parent: "c", Access: api.Access(access), Affs: affs}
		c := api.Node{Name: "c", Collection: true, Subs: everybody}
		told(t, []api.Node{c, n}, "n", want)
		c.Affs, c.Access = []api.Aff{{Jid: "m@d", Role: api.Outcast}}, api.Whitelist
		told(t, []api.Node{c, n}, "n", want)
	}
	n := api.Node{Name: "n", Parent: "c", Access: api.Authorize, Affs: affs, Subs: []api.Sub{{Jid: "p@d", Pending: true}, {Jid: "s@d"}}}
	c := api.Node{Name: "c", Subs: append(everybody, api.Sub{Jid: "p@d"})}
	told(t, []api.Node{n, c}, "n", "m@d o@d s@d")
}

// P12.3: the first node of a name, also of one above.
func TestFanFirst(t *testing.T) {
	nodes := []api.Node{
		{Name: "c", Parent: "k", Subs: []api.Sub{{Jid: "c1@d"}}}, {Name: "n", Parent: "c", Subs: []api.Sub{{Jid: "n1@d"}}}, {Name: "n", Parent: "other", Subs: []api.Sub{{Jid: "n2@d"}}},
		{Name: "c", Parent: "other", Subs: []api.Sub{{Jid: "c2@d"}}}, {Name: "other", Subs: []api.Sub{{Jid: "other@d"}}}, {Name: "k", Subs: []api.Sub{{Jid: "k@d"}}},
	}
	told(t, nodes, "n", "c1@d k@d n1@d")
	slices.Reverse(nodes)
	told(t, nodes, "n", "n2@d other@d")
}

// P12.3: no node of that name; a Parent that is not there; none that is empty.
func TestFanNone(t *testing.T) {
	nodes := []api.Node{{Name: "n", Subs: []api.Sub{{Jid: "a@d"}}}, {Name: "m", Parent: "gone", Subs: []api.Sub{{Jid: "b@d"}}}, {Name: "", Subs: []api.Sub{{Jid: "c@d"}}}}
	told(t, nodes, "n", "a@d")
	told(t, nodes, "m", "b@d")
	told(t, nodes, "", "c@d")
	told(t, nodes, "gone", "")
	told(t, nodes, "N", "")
	told(t, nil, "n", "")
	told(t, nil, "", "")
	if l := Fan(nodes[:1], "x"); len(l) != 0 {
		t.Error(l)
	}
}

// P12.3, P1: circles end, and tell each once.
func TestFanCircles(t *testing.T) {
	self := []api.Node{{Name: "n", Parent: "n", Subs: subscribed(0, 1, 2)}}
	told(t, self, "n", "s0@d s1@d s2@d")
	three := []api.Node{{Name: "a", Parent: "b", Subs: []api.Sub{{Jid: "a@d", Depth: 1}}}, {Name: "b", Parent: "c", Subs: []api.Sub{{Jid: "b@d", Depth: 1}}}, {Name: "c", Parent: "a", Subs: []api.Sub{{Jid: "c@d", Depth: 1}}}}
	told(t, three, "a", "a@d b@d")
	told(t, three, "b", "b@d c@d")
	told(t, three, "c", "a@d c@d")
	ahead := append(three, api.Node{Name: "n", Parent: "c"})
	told(t, ahead, "n", "c@d")
}

// P12.3, P1: many nodes.
func TestFanOfMany(t *testing.T) {
	var nodes []api.Node
	for i := range 100000 {
		nodes = append(nodes, api.Node{Name: fmt.Sprint(i), Parent: fmt.Sprint((i + 1) % 100000), Subs: []api.Sub{{Jid: fmt.Sprintf("u%05d@d", i)}}})
	}
	if l := Fan(nodes, "500"); len(l) != 100000 || l[0] != "u00000@d" || l[99999] != "u99999@d" {
		t.Error(len(l))
	}
}

// P3: nothing is changed that was handed in, and nothing of it answered.
func TestFanKeeps(t *testing.T) {
	subs := []api.Sub{{Jid: "z@d"}, {Jid: "b@d"}, {Jid: "z@d"}}
	nodes := []api.Node{{Name: "n", Parent: "c", Subs: subs}, {Name: "c", Subs: subs}}
	first := Fan(nodes, "n")
	spoil(first)
	if !slices.Equal(subs, []api.Sub{{Jid: "z@d"}, {Jid: "b@d"}, {Jid: "z@d"}}) || nodes[0].Name != "n" || nodes[1].Name != "c" {
		t.Error("what was handed in has changed")
	}
	told(t, nodes, "n", "b@d z@d")
}

// modelFan is the document's sentence, step by step.
func modelFan(nodes []api.Node, name string) []string {
	find := func(name string) *api.Node {
		for i := range nodes {
			if nodes[i].Name == name {
				return &nodes[i]
			}
		}
		return nil
	}
	n := find(name)
	if n == nil {
		return nil
	}
	all := map[string]bool{}
	for _, s := range n.Subs {
		all[s.Jid] = all[s.Jid] || !s.Pending
	}
	seen := map[*api.Node]bool{}
	up := n
	for steps := 1; steps <= len(nodes) && up.Parent != ""; steps++ {
		up = find(up.Parent)
		if up == nil || seen[up] {
			break
		}
		seen[up] = true
		for _, s := range up.Subs {
			all[s.Jid] = all[s.Jid] || !s.Pending && (s.Depth == 0 || s.Depth >= steps)
		}
	}
	var l []string
	for jid, is := range all {
		if is && node.Reads(*n, jid) {
			l = append(l, jid)
		}
	}
	slices.Sort(l)
	return l
}

// P12.3, P12.5: nodes at random, held against the second reading; who is told may read, and has a subscription.
func TestFanAtRandom(t *testing.T) {
	r := rand.New(rand.NewSource(123))
	name := func() string { return string(rune('a' + r.Intn(7))) }
	jid := func() string { return fmt.Sprintf("u%d@d", r.Intn(9)) }
	some := 0
	for range 20000 {
		var nodes []api.Node
		for range r.Intn(8) {
			n := api.Node{Name: name(), Parent: name(), Access: api.Access(r.Intn(3))}
			if r.Intn(4) == 0 {
				n.Parent = ""
			}
			for range r.Intn(4) {
				n.Affs = append(n.Affs, api.Aff{Jid: jid(), Role: api.Role(1 + r.Intn(5))})
				n.Subs = append(n.Subs, api.Sub{Jid: jid(), Pending: r.Intn(4) == 0, Depth: r.Intn(5)})
			}
			nodes = append(nodes, n)
		}
		at := name()
		got, want := Fan(nodes, at), modelFan(nodes, at)
		if !slices.Equal(got, want) {
			t.Fatalf("%+v, %q: %q; want %q", nodes, at, got, want)
		}
		if len(got) > 1 {
			some++
		}
		for _, j := range got {
			n := nodes[slices.IndexFunc(nodes, func(n api.Node) bool { return n.Name == at })]
			has := func(n api.Node) bool { _, ok := node.Sub(n, j); return ok }
			if !node.Reads(n, j) || !slices.ContainsFunc(nodes, has) {
				t.Fatalf("%+v, %q: %q is told", nodes, at, j)
			}
		}
	}
	if some < 1000 {
		t.Errorf("only %d tell several", some)
	}
}

// P12.3: the walk of those above comes to none twice, counts steps from 1 on, and ends where it is left.
func TestOver(t *testing.T) {
	nodes := []api.Node{{Name: "n", Parent: "a"}, {Name: "a", Parent: "b"}, {Name: "b", Parent: "c"}, {Name: "c", Parent: "a"}, {Name: "d"}, {Name: "e", Parent: "d"}}
	for _, c := range []struct {
		at   int
		want string
	}{{0, "1a 2b 3c"}, {1, "1b 2c 3a"}, {4, ""}, {5, "1d"}} {
		walk := over(nodes, nodes[c.at])
		for range 2 {
			var got []string
			for steps, n := range walk {
				got = append(got, fmt.Sprint(steps, n.Name))
			}
			if s := strings.Join(got, " "); s != c.want {
				t.Errorf("%d: %q", c.at, s)
			}
		}
	}
	for steps := range over(nodes, nodes[0]) {
		if steps > 1 {
			t.Error(steps)
		}
		break
	}
}
