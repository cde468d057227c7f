package service

import (
	"math/rand"
	"slices"
	"strconv"
	"strings"
	"testing"

	"heliograph/api"
	"heliograph/kv"
	"heliograph/node"
	"heliograph/request"
)

// met counts how often a verb came to a condition.
type met map[api.Verb]map[api.Cond]int

func (m met) add(v api.Verb, c api.Cond) {
	if m[v] == nil {
		m[v] = map[api.Cond]int{}
	}
	m[v][c]++
}

// mustMeet are the conditions that chapters 11 and 14 name for each verb.
var mustMeet = map[api.Verb][]api.Cond{
	api.Create:      {api.NoCond, api.BadRequest, api.Conflict, api.ResourceConstraint},
	api.Remove:      {api.NoCond, api.BadRequest, api.ItemNotFound, api.Forbidden},
	api.Configure:   {api.NoCond, api.BadRequest, api.ItemNotFound, api.Forbidden},
	api.Subscribe:   {api.NoCond, api.BadRequest, api.ItemNotFound, api.Forbidden, api.NotAllowed, api.NotAuthorized},
	api.Unsubscribe: {api.NoCond, api.BadRequest, api.ItemNotFound, api.UnexpectedRequest},
	api.Approve:     {api.NoCond, api.BadRequest, api.ItemNotFound, api.Forbidden},
	api.Deny:        {api.NoCond, api.BadRequest, api.ItemNotFound, api.Forbidden},
	api.Affiliate:   {api.NoCond, api.BadRequest, api.ItemNotFound, api.Forbidden, api.Conflict},
	api.Publish:     {api.NoCond, api.BadRequest, api.ItemNotFound, api.Forbidden, api.NotAllowed, api.ResourceConstraint},
	api.Retract:     {api.NoCond, api.BadRequest, api.ItemNotFound, api.Forbidden, api.NotAllowed},
	api.Purge:       {api.NoCond, api.BadRequest, api.ItemNotFound, api.Forbidden, api.NotAllowed},
	api.Items:       {api.NoCond, api.BadRequest, api.ItemNotFound, api.Forbidden, api.NotAllowed},
	api.Associate:   {api.NoCond, api.BadRequest, api.ItemNotFound, api.Forbidden, api.NotAllowed, api.Conflict},
	api.Dissociate:  {api.NoCond, api.BadRequest, api.ItemNotFound, api.Forbidden, api.UnexpectedRequest},
	api.Nodes:       {api.NoCond, api.BadRequest, api.ItemNotFound, api.NotAllowed},
}

func (m met) enough(t *testing.T, least int) {
	t.Helper()
	for v, conds := range mustMeet {
		for _, c := range conds {
			if m[v][c] < least {
				t.Errorf("%s came to condition %d only %d times", request.Verb(v), c, m[v][c])
			}
		}
	}
}

// dice make requests of a small world, so that they meet.
type dice struct {
	*rand.Rand
	names, people []string
}

func (d dice) one(l []string) string { return l[d.Intn(len(l))] }

func (d dice) text() string {
	if d.Intn(8) > 0 {
		return strings.Repeat("x", api.MaxText)
	}
	return d.one([]string{"", "a", "<b>", "\u00e9"})
}

// verb prefers those that build something up, and seldom takes a node away.
func (d dice) verb() api.Verb {
	switch v := api.Verb(1 + d.Intn(15)); {
	case (v == api.Remove || v == api.Purge || v == api.Affiliate) && d.Intn(4) > 0, d.Intn(2) == 0:
		return []api.Verb{api.Create, api.Subscribe, api.Publish, api.Publish, api.Associate}[d.Intn(5)]
	default:
		return v
	}
}

func (d dice) request(m *kv.Map) api.Request {
	r := api.Request{Verb: d.verb(), Node: d.one(d.names)}
	n, _ := Node(m, r.Node)
	switch r.Verb {
	case api.Create:
		r.Collection = d.Intn(2) == 0
	case api.Configure:
		r.Access, r.Max = []api.Access{api.Open, api.Authorize, api.Authorize, api.Whitelist}[d.Intn(4)], []int{0, 4, 8, 8, 8, 8}[d.Intn(6)]
	case api.Subscribe:
		r.Depth = d.Intn(4)
	case api.Approve, api.Deny:
		r.Jid = d.one(d.people)
		// One who waits, if there is one.
		if at := slices.IndexFunc(n.Subs, func(s api.Sub) bool { return s.Pending }); at >= 0 {
			r.Jid = n.Subs[at].Jid
		}
	case api.Affiliate:
		r.Jid, r.Role = d.one(d.people), api.Role(1+d.Intn(5))
	case api.Publish:
		r.Item, r.Text = "i"+strconv.Itoa(d.Intn(9)), d.text()
	case api.Retract:
		r.Item = "i" + strconv.Itoa(d.Intn(9))
		if len(n.Items) > 0 && d.Intn(2) == 0 {
			r.Item = n.Items[0].Id
		}
	case api.Associate:
		r.Parent = d.one(d.names)
	case api.Nodes:
		if d.Intn(3) == 0 {
			r.Node = ""
		}
	}
	return r
}

// who is mostly somebody who owns something, so that not all is refused.
func (d dice) who(m *kv.Map, r api.Request) string {
	n, there := Node(m, r.Node)
	if there && r.Verb != api.Subscribe && r.Verb != api.Unsubscribe && d.Intn(3) > 0 {
		return n.Affs[d.Intn(len(n.Affs))].Jid
	}
	return d.one(d.people)
}

// spoilt has one thing wrong: the verb names too much or too little, or he who asks has no address.
func (d dice) spoilt(from string, r api.Request) (string, api.Request) {
	switch d.Intn(6) {
	case 0:
		return from + "/r", r
	case 1:
		r.Node += "_"
	case 2:
		r.Item += "_"
	case 3:
		r.Depth = 256
	case 4:
		r.Max = -1
	case 5:
		r.Parent += "!"
	}
	return from, r
}

// P14.2 to P14.8: long ways, each step held against the second reading.
func TestWays(t *testing.T) {
	names := []string{"a", "b", "c", "d"}
	people := []string{"p@d", "q@d", "r@d", "s@d", "t@d", "u@d", "v@d"}
	seen := met{}
	for seed := range int64(60) {
		d := dice{rand.New(rand.NewSource(seed)), names, people}
		if seed%3 == 0 {
			// More names than there may be nodes.
			for i := range 16 {
				d.names = append(d.names[:len(d.names):len(d.names)], "n"+strconv.Itoa(i))
			}
		}
		m := kv.New()
		for range 500 {
			r := d.request(m)
			from := d.who(m, r)
			if d.Intn(20) == 0 {
				from, r = d.spoilt(from, r)
			}
			behind, x, _ := check(t, m, from, r)
			seen.add(r.Verb, x.Cond)
			m = behind
		}
		if !Right(m) {
			t.Errorf("seed %d: not right", seed)
		}
		if t.Failed() {
			return
		}
	}
	seen.enough(t, 3)
}

// wild is a node of any kind, with any Parent.
func (d dice) wild(name string) api.Node {
	n := api.Node{Name: name, Collection: d.Intn(2) == 0, Access: api.Access(d.Intn(3)), Affs: []api.Aff{{Jid: d.one(d.people), Role: api.Owner}}}
	if !n.Collection {
		n.Max = d.Intn(9)
	}
	if d.Intn(3) > 0 {
		n.Parent = d.one(d.names)
	}
	for _, j := range d.people {
		if d.Intn(2) == 0 {
			n.Subs = append(n.Subs, api.Sub{Jid: j, Pending: d.Intn(4) == 0, Depth: d.Intn(4)})
		}
	}
	return n
}

// P14.1 to P14.4, P14.8: maps that no service made: circles, Parents that are none, too many nodes, pairs that are no node's.
func TestWildMaps(t *testing.T) {
	seen := met{}
	right := 0
	for seed := range int64(400) {
		d := dice{Rand: rand.New(rand.NewSource(seed)), people: []string{"p@d", "q@d", "r@d"}}
		for i := range []int{3, 6, 20, 90}[seed%4] {
			d.names = append(d.names, "n"+strconv.Itoa(i))
		}
		m := kv.New()
		for _, name := range d.names {
			s, _ := node.Encode(d.wild(name))
			switch d.Intn(12) {
			case 0:
				s, _ = node.Encode(d.wild(d.one(d.names)))
			case 1:
				s = s[:d.Intn(len(s))]
			case 2, 3:
				continue
			}
			m.Put("node/"+name, s)
		}
		if d.Intn(4) == 0 {
			for i := range api.MaxPairs - m.Len() {
				m.Put("log/x/"+strconv.Itoa(i), "")
			}
		}
		if Right(m) {
			right++
		}
		for range 12 {
			r := d.request(m)
			behind, x, _ := check(t, m, d.who(m, r), r)
			seen.add(r.Verb, x.Cond)
			m = behind
		}
		if t.Failed() {
			return
		}
	}
	if right < 5 || seen[api.Associate][api.Conflict] < 10 || seen[api.Create][api.ResourceConstraint] < 20 {
		t.Error("right:", right, "met:", seen)
	}
}

// P4: what becomes of the one map changes nothing of the other one.
func TestFork(t *testing.T) {
	m, _, _ := Do(kv.New(), "o@d", api.Request{Verb: api.Create, Node: "n"})
	for _, r := range []api.Request{{Verb: api.Create, Node: "m"}, {Verb: api.Create, Node: "n"}, {Verb: api.Nodes}, {}} {
		before := string(m.Bytes())
		got, _, _ := Do(m, "o@d", r)
		again := string(got.Bytes())
		got.Put("node/n", "x")
		got.Delete("node/m")
		if string(m.Bytes()) != before {
			t.Errorf("%+v: the first one turned", r)
		}
		got, _, _ = Do(m, "o@d", r)
		m.Put("log/x", r.Node)
		if string(got.Bytes()) != again {
			t.Errorf("%+v: the second one turned", r)
		}
	}
}
