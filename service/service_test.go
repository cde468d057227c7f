package service

import (
	"bytes"
	"maps"
	"reflect"
	"slices"
	"strconv"
	"strings"
	"testing"

	"heliograph/api"
	"heliograph/kv"
	"heliograph/node"
)

func sameReply(a, b api.Reply) bool {
	return a.Cond == b.Cond && slices.Equal(a.Items, b.Items) && slices.Equal(a.Names, b.Names)
}

// check does a request, and holds all that comes of it against the second reading and against what follows.
func check(t *testing.T, m *kv.Map, from string, r api.Request) (*kv.Map, api.Reply, []api.Note) {
	t.Helper()
	before, w := m.Bytes(), worldOf(m)
	wantWorld, wantReply, wantNotes := modelDo(w, from, r)
	got, x, notes := Do(m, from, r)
	if !maps.Equal(worldOf(got), wantWorld) {
		t.Errorf("%s %+v: %q, want %q", from, r, worldOf(got), wantWorld)
	}
	if !sameReply(x, wantReply) || !slices.Equal(notes, wantNotes) {
		t.Errorf("%s %+v: %+v %+v, want %+v %+v", from, r, x, notes, wantReply, wantNotes)
	}
	follows(t, w, from, r, got, x, notes)
	unshared(t, m, from, r)
	if !bytes.Equal(m.Bytes(), before) || got == nil || got == m {
		t.Errorf("%s %+v: the map that was handed in", from, r)
	}
	return got, x, notes
}

// follows asks what the promises say that follows: P14.5 to P14.8.
func follows(t *testing.T, w world, from string, r api.Request, got *kv.Map, x api.Reply, notes []api.Note) {
	t.Helper()
	turned := !maps.Equal(worldOf(got), w)
	if Right(w.fill()) != modelRight(w) || modelRight(w) && !Right(got) {
		t.Errorf("%s %+v: Right %v, and then %v", from, r, Right(w.fill()), Right(got))
	}
	nodes := worldOf(got).nodes()
	for _, n := range notes {
		subscribed := slices.ContainsFunc(slices.Concat([]string{n.Node}, above(nodes, n.Node)), func(name string) bool {
			s, has := node.Sub(nodes[name], n.To)
			return has && !s.Pending
		})
		if !subscribed || !readable(nodes[n.Node], n.To) {
			t.Errorf("%s %+v: %+v is told", from, r, n)
		}
	}
	for _, name := range x.Names {
		if !visible(nodes[name], from) {
			t.Errorf("%s %+v: %s is told of", from, r, name)
		}
	}
	if len(x.Items) > 0 && !visible(nodes[r.Node], from) {
		t.Errorf("%s %+v: items are told of", from, r)
	}
	asks := r.Verb == api.Items || r.Verb == api.Nodes
	if turned && (asks || x.Cond != api.NoCond) {
		t.Errorf("%s %+v: %+v, and the map turned", from, r, x)
	}
	if x.Cond != api.NoCond && (len(x.Items) > 0 || len(x.Names) > 0 || len(notes) > 0) {
		t.Errorf("%s %+v: beside a condition %+v %+v", from, r, x, notes)
	}
}

// unshared spoils what was answered, and looks whether anything else turned: P3, P4.
func unshared(t *testing.T, m *kv.Map, from string, r api.Request) {
	t.Helper()
	a, x, notes := Do(m, from, r)
	b, y, more := Do(m, from, r)
	world, reply, told := worldOf(b), api.Reply{Cond: y.Cond, Items: slices.Clone(y.Items), Names: slices.Clone(y.Names)}, slices.Clone(more)
	for i := range x.Items {
		x.Items[i].Text = "spoilt"
	}
	for i := range x.Names {
		x.Names[i] = "spoilt"
	}
	for i := range notes {
		notes[i].To = "spoilt"
	}
	for _, p := range a.Scan("") {
		a.Put(p.Key, "spoilt")
	}
	if a == b || !maps.Equal(worldOf(b), world) || !sameReply(y, reply) || !slices.Equal(more, told) {
		t.Errorf("%s %+v: two answers share something", from, r)
	}
}

// scene is a map on which requests are done one behind the other.
type scene struct {
	*testing.T
	m *kv.Map
}

func begin(t *testing.T) *scene { return &scene{t, kv.New()} }

func (s *scene) do(from string, r api.Request) (api.Reply, []api.Note) {
	s.Helper()
	m, x, notes := check(s.T, s.m, from, r)
	s.m = m
	return x, notes
}

// want does a request that must have a condition (NoCond: none).
func (s *scene) want(c api.Cond, from string, r api.Request) {
	s.Helper()
	if x, _ := s.do(from, r); x.Cond != c {
		s.Errorf("%s %+v: condition %d, want %d", from, r, x.Cond, c)
	}
}

func (s *scene) told(from string, r api.Request, want ...api.Note) {
	s.Helper()
	if x, notes := s.do(from, r); x.Cond != api.NoCond || !slices.Equal(notes, want) {
		s.Errorf("%s %+v: %+v %+v, want %+v", from, r, x, notes, want)
	}
}

func (s *scene) names(from, name string, want ...string) {
	s.Helper()
	if x, _ := s.do(from, api.Request{Verb: api.Nodes, Node: name}); x.Cond != api.NoCond || !slices.Equal(x.Names, want) {
		s.Errorf("%s asks for the nodes of %q: %+v, want %q", from, name, x, want)
	}
}

func (s *scene) items(from, name string, want ...api.Item) {
	s.Helper()
	if x, _ := s.do(from, api.Request{Verb: api.Items, Node: name}); x.Cond != api.NoCond || !slices.Equal(x.Items, want) {
		s.Errorf("%s asks for the items of %q: %+v, want %+v", from, name, x, want)
	}
}

func (s *scene) node(name string, want api.Node) {
	s.Helper()
	if n, ok := Node(s.m, name); !ok || !node.Same(n, want) {
		s.Errorf("%+v, %v, want %+v", n, ok, want)
	}
}

// put lays a node into the map as it is.
func (s *scene) put(n api.Node) {
	s.Helper()
	text, e := node.Encode(n)
	if e != api.OK || s.m.Put("node/"+n.Name, text) != api.OK {
		s.Fatalf("%+v: error %d", n, e)
	}
}

func ownedBy(owner string) []api.Aff { return []api.Aff{{Jid: owner, Role: api.Owner}} }

// P14.2
func TestCreate(t *testing.T) {
	s := begin(t)
	s.want(api.NoCond, "o@d", api.Request{Verb: api.Create, Node: "n"})
	s.node("n", api.Node{Name: "n", Max: 4, Affs: ownedBy("o@d")})
	s.want(api.NoCond, "d", api.Request{Verb: api.Create, Node: "c", Collection: true})
	s.node("c", api.Node{Name: "c", Collection: true, Affs: ownedBy("d")})
	for _, from := range []string{"o@d", "x@d", "d"} {
		s.want(api.Conflict, from, api.Request{Verb: api.Create, Node: "n"})
		s.want(api.Conflict, from, api.Request{Verb: api.Create, Node: "c"})
		s.want(api.Conflict, from, api.Request{Verb: api.Create, Node: "n", Collection: true})
	}
	for i := 2; i < api.MaxNodes; i++ {
		s.want(api.NoCond, "o@d", api.Request{Verb: api.Create, Node: "n" + strconv.Itoa(i)})
	}
	s.want(api.ResourceConstraint, "o@d", api.Request{Verb: api.Create, Node: "more"})
	s.want(api.Conflict, "o@d", api.Request{Verb: api.Create, Node: "n"})
	s.want(api.NoCond, "o@d", api.Request{Verb: api.Remove, Node: "n2"})
	s.want(api.NoCond, "o@d", api.Request{Verb: api.Create, Node: "more"})
	if len(Nodes(s.m)) != api.MaxNodes || !Right(s.m) {
		t.Error(len(Nodes(s.m)))
	}
}

// P14.2: no pair is left.
func TestCreateFull(t *testing.T) {
	s := begin(t)
	s.want(api.NoCond, "o@d", api.Request{Verb: api.Create, Node: "n"})
	for i := s.m.Len(); i < api.MaxPairs; i++ {
		s.m.Put("log/"+strconv.Itoa(i), "x")
	}
	s.want(api.ResourceConstraint, "o@d", api.Request{Verb: api.Create, Node: "m"})
	s.want(api.Conflict, "o@d", api.Request{Verb: api.Create, Node: "n"})
	s.want(api.NoCond, "o@d", api.Request{Verb: api.Publish, Node: "n", Item: "i"})
	s.m.Delete("log/5")
	s.want(api.NoCond, "o@d", api.Request{Verb: api.Create, Node: "m"})
}

// P14.2: what is under a node's key and is none is not there, and gives way.
func TestCreateOver(t *testing.T) {
	s := begin(t)
	s.m.Put("node/n", "rubbish")
	s.want(api.ItemNotFound, "o@d", api.Request{Verb: api.Items, Node: "n"})
	s.want(api.ItemNotFound, "o@d", api.Request{Verb: api.Remove, Node: "n"})
	s.names("o@d", "")
	s.want(api.NoCond, "o@d", api.Request{Verb: api.Create, Node: "n"})
	s.names("o@d", "", "n")
}

// P14.2
func TestBadRequest(t *testing.T) {
	s := begin(t)
	s.want(api.NoCond, "o@d", api.Request{Verb: api.Create, Node: "n"})
	for _, from := range []string{"", "O@d", "o@D", "o@d/r", "@d", "o@", "a b", "\xff", strings.Repeat("d", 65)} {
		for v := api.Create; v <= api.Nodes; v++ {
			s.want(api.BadRequest, from, api.Request{Verb: v, Node: "n"})
		}
		s.want(api.BadRequest, from, api.Request{Verb: api.Nodes})
	}
	for _, r := range []api.Request{
		{}, {Verb: 16, Node: "n"}, {Verb: 255}, {Verb: api.Create}, {Verb: api.Create, Node: "N"}, {Verb: api.Create, Node: "m", Max: 1},
		{Verb: api.Items}, {Verb: api.Items, Node: "n", Item: "i"}, {Verb: api.Subscribe, Node: "n", Depth: 256}, {Verb: api.Subscribe, Node: "n", Depth: -1},
		{Verb: api.Approve, Node: "n"}, {Verb: api.Affiliate, Node: "n", Jid: "a@d"}, {Verb: api.Configure, Node: "n", Max: 9}, {Verb: api.Publish, Node: "n"},
		{Verb: api.Publish, Node: "n", Item: "i", Text: "\x00"}, {Verb: api.Associate, Node: "n"}, {Verb: api.Purge, Node: "n", Text: "x"}, {Verb: api.Nodes, Parent: "n"},
	} {
		s.want(api.BadRequest, "o@d", r)
	}
	s.want(api.NoCond, strings.Repeat("d", 64), api.Request{Verb: api.Nodes})
}

// P14.2, P1: of nil.
func TestNil(t *testing.T) {
	for _, r := range []api.Request{{}, {Verb: api.Nodes}, {Verb: api.Create, Node: "n"}} {
		if m, x, notes := Do(nil, "o@d", r); m != nil || !reflect.DeepEqual(x, api.Reply{Cond: api.BadRequest}) || len(notes) != 0 {
			t.Error(m, x, notes)
		}
	}
	if n, ok := Node(nil, "n"); ok || !reflect.DeepEqual(n, api.Node{}) || len(Nodes(nil)) != 0 || Right(nil) {
		t.Error("nil")
	}
}

// P14.2: of a node that is not there, before all else.
func TestItemNotFound(t *testing.T) {
	s := begin(t)
	s.want(api.NoCond, "o@d", api.Request{Verb: api.Create, Node: "c", Collection: true})
	for _, r := range []api.Request{
		{Verb: api.Remove}, {Verb: api.Configure}, {Verb: api.Subscribe}, {Verb: api.Unsubscribe}, {Verb: api.Approve, Jid: "a@d"}, {Verb: api.Deny, Jid: "a@d"},
		{Verb: api.Affiliate, Jid: "a@d", Role: api.Owner}, {Verb: api.Publish, Item: "i"}, {Verb: api.Retract, Item: "i"}, {Verb: api.Purge}, {Verb: api.Items},
		{Verb: api.Associate, Parent: "c"}, {Verb: api.Dissociate}, {Verb: api.Nodes},
	} {
		r.Node = "n"
		s.want(api.ItemNotFound, "o@d", r)
	}
}

// P14.2, P14.3, P14.7: who may not see a node is told that it is not there.
func TestVisible(t *testing.T) {
	s := begin(t)
	affs := []api.Aff{{Jid: "m@d", Role: api.Member}, {Jid: "o@d", Role: api.Owner}, {Jid: "out@d", Role: api.Outcast}, {Jid: "p@d", Role: api.Publisher}}
	subs := []api.Sub{{Jid: "s@d"}, {Jid: "w@d", Pending: true}}
	item := api.Item{Id: "i", Publisher: "o@d", Text: "t"}
	for a, name := range []string{"open", "auth", "white"} {
		s.put(api.Node{Name: name, Access: api.Access(a), Max: 4, Affs: affs, Subs: subs, Items: []api.Item{item}})
		s.put(api.Node{Name: "c-" + name, Collection: true, Access: api.Access(a), Affs: affs, Subs: subs})
		s.put(api.Node{Name: "in-" + name, Parent: "c-open", Access: api.Access(a), Affs: affs})
	}
	for _, who := range []string{"m@d", "o@d", "p@d"} {
		s.names(who, "", "auth", "c-auth", "c-open", "c-white", "open", "white")
		s.names(who, "c-open", "in-auth", "in-open", "in-white")
		s.names(who, "c-white")
		s.names(who, "c-auth")
		for _, name := range []string{"open", "auth", "white"} {
			s.items(who, name, item)
			s.want(api.NotAllowed, who, api.Request{Verb: api.Items, Node: "c-" + name})
			s.want(api.NotAllowed, who, api.Request{Verb: api.Nodes, Node: name})
		}
	}
	for _, who := range []string{"s@d", "w@d", "x@d"} {
		s.names(who, "", "auth", "c-auth", "c-open", "open")
		s.names(who, "c-open", "in-auth", "in-open")
		s.names(who, "c-auth")
		s.items(who, "open", item)
		for _, name := range []string{"white", "c-white"} {
			s.want(api.ItemNotFound, who, api.Request{Verb: api.Items, Node: name})
			s.want(api.ItemNotFound, who, api.Request{Verb: api.Nodes, Node: name})
		}
		s.want(api.NotAllowed, who, api.Request{Verb: api.Items, Node: "c-auth"})
		s.want(api.NotAllowed, who, api.Request{Verb: api.Nodes, Node: "auth"})
	}
	s.items("s@d", "auth", item)
	s.want(api.Forbidden, "w@d", api.Request{Verb: api.Items, Node: "auth"})
	s.want(api.Forbidden, "x@d", api.Request{Verb: api.Items, Node: "auth"})
	s.names("out@d", "")
	for _, name := range []string{"open", "auth", "white", "c-open", "c-auth", "c-white"} {
		s.want(api.ItemNotFound, "out@d", api.Request{Verb: api.Items, Node: name})
		s.want(api.ItemNotFound, "out@d", api.Request{Verb: api.Nodes, Node: name})
		s.want(api.Forbidden, "out@d", api.Request{Verb: api.Subscribe, Node: name})
	}
	// What changes a node asks for more than to see it, and says so.
	s.want(api.NotAllowed, "x@d", api.Request{Verb: api.Subscribe, Node: "white"})
	s.want(api.Forbidden, "x@d", api.Request{Verb: api.Remove, Node: "white"})
}

// P14.3
func TestRemove(t *testing.T) {
	s := begin(t)
	s.put(api.Node{Name: "top", Collection: true, Affs: ownedBy("o@d")})
	s.put(api.Node{Name: "c", Collection: true, Parent: "top", Affs: ownedBy("o@d")})
	s.put(api.Node{Name: "a", Parent: "c", Max: 2, Affs: ownedBy("a@d"), Subs: []api.Sub{{Jid: "s@d", Depth: 7}}, Items: []api.Item{{Id: "i", Publisher: "a@d", Text: "t"}}})
	s.put(api.Node{Name: "b", Parent: "c", Collection: true, Access: api.Whitelist, Affs: ownedBy("b@d")})
	s.put(api.Node{Name: "e", Parent: "b", Max: 2, Affs: ownedBy("b@d")})
	s.put(api.Node{Name: "f", Parent: "top", Max: 2, Affs: append(ownedBy("o@d"), api.Aff{Jid: "p@d", Role: api.Publisher})})
	s.m.Put("log/x", "c")
	s.want(api.Forbidden, "a@d", api.Request{Verb: api.Remove, Node: "c"})
	s.want(api.Forbidden, "p@d", api.Request{Verb: api.Remove, Node: "f"})
	s.want(api.Forbidden, "x@d", api.Request{Verb: api.Remove, Node: "f"})
	s.told("o@d", api.Request{Verb: api.Remove, Node: "c"})
	if _, there := Node(s.m, "c"); there || s.m.Len() != 6 || !Right(s.m) {
		t.Error("c is there, or others are gone:", s.m.Len())
	}
	s.node("a", api.Node{Name: "a", Max: 2, Affs: ownedBy("a@d"), Subs: []api.Sub{{Jid: "s@d", Depth: 7}}, Items: []api.Item{{Id: "i", Publisher: "a@d", Text: "t"}}})
	s.node("b", api.Node{Name: "b", Collection: true, Access: api.Whitelist, Affs: ownedBy("b@d")})
	s.node("e", api.Node{Name: "e", Parent: "b", Max: 2, Affs: ownedBy("b@d")})
	s.names("o@d", "", "a", "top")
	s.told("a@d", api.Request{Verb: api.Remove, Node: "a"})
	s.want(api.ItemNotFound, "a@d", api.Request{Verb: api.Remove, Node: "a"})
}

// P14.3: a node that is in itself (in a map that is not right) is gone all the same.
func TestRemoveInItself(t *testing.T) {
	s := begin(t)
	s.put(api.Node{Name: "c", Collection: true, Parent: "c", Affs: ownedBy("o@d")})
	s.put(api.Node{Name: "l", Parent: "k", Max: 1, Affs: ownedBy("o@d")})
	s.put(api.Node{Name: "k", Parent: "l", Max: 1, Affs: ownedBy("o@d")})
	s.told("o@d", api.Request{Verb: api.Remove, Node: "c"})
	s.told("o@d", api.Request{Verb: api.Remove, Node: "l"})
	s.node("k", api.Node{Name: "k", Max: 1, Affs: ownedBy("o@d")})
	if s.m.Len() != 1 {
		t.Error(s.m.Len())
	}
}

// P14.3: each verb does what it says, for him who asks.
func TestEdits(t *testing.T) {
	s := begin(t)
	s.want(api.NoCond, "o@d", api.Request{Verb: api.Create, Node: "n"})
	s.want(api.NoCond, "o@d", api.Request{Verb: api.Configure, Node: "n", Access: api.Authorize, Max: 2})
	s.want(api.Forbidden, "a@d", api.Request{Verb: api.Configure, Node: "n", Max: 2})
	s.want(api.NoCond, "a@d", api.Request{Verb: api.Subscribe, Node: "n", Depth: 3})
	s.want(api.NotAuthorized, "a@d", api.Request{Verb: api.Subscribe, Node: "n", Depth: 3})
	s.want(api.NoCond, "b@d", api.Request{Verb: api.Subscribe, Node: "n"})
	s.node("n", api.Node{Name: "n", Access: api.Authorize, Max: 2, Affs: ownedBy("o@d"), Subs: []api.Sub{{Jid: "a@d", Pending: true, Depth: 3}, {Jid: "b@d", Pending: true}}})
	s.want(api.Forbidden, "a@d", api.Request{Verb: api.Approve, Node: "n", Jid: "a@d"})
	s.want(api.NoCond, "o@d", api.Request{Verb: api.Approve, Node: "n", Jid: "a@d"})
	s.want(api.ItemNotFound, "o@d", api.Request{Verb: api.Approve, Node: "n", Jid: "a@d"})
	s.want(api.Forbidden, "b@d", api.Request{Verb: api.Deny, Node: "n", Jid: "b@d"})
	s.want(api.NoCond, "o@d", api.Request{Verb: api.Deny, Node: "n", Jid: "b@d"})
	s.want(api.ItemNotFound, "o@d", api.Request{Verb: api.Deny, Node: "n", Jid: "b@d"})
	s.node("n", api.Node{Name: "n", Access: api.Authorize, Max: 2, Affs: ownedBy("o@d"), Subs: []api.Sub{{Jid: "a@d", Depth: 3}}})
	s.want(api.UnexpectedRequest, "b@d", api.Request{Verb: api.Unsubscribe, Node: "n"})
	s.want(api.NoCond, "a@d", api.Request{Verb: api.Unsubscribe, Node: "n"})
	s.want(api.Forbidden, "p@d", api.Request{Verb: api.Affiliate, Node: "n", Jid: "p@d", Role: api.Publisher})
	s.want(api.NoCond, "o@d", api.Request{Verb: api.Affiliate, Node: "n", Jid: "p@d", Role: api.Publisher})
	s.want(api.Conflict, "o@d", api.Request{Verb: api.Affiliate, Node: "n", Jid: "o@d", Role: api.Member})
	s.want(api.NoCond, "p@d", api.Request{Verb: api.Publish, Node: "n", Item: "i", Text: "1"})
	s.want(api.NoCond, "o@d", api.Request{Verb: api.Publish, Node: "n", Item: "j", Text: "2"})
	s.want(api.NoCond, "o@d", api.Request{Verb: api.Publish, Node: "n", Item: "k"})
	s.want(api.Forbidden, "a@d", api.Request{Verb: api.Publish, Node: "n", Item: "l"})
	s.items("p@d", "n", api.Item{Id: "j", Publisher: "o@d", Text: "2"}, api.Item{Id: "k", Publisher: "o@d"})
	s.want(api.ItemNotFound, "p@d", api.Request{Verb: api.Retract, Node: "n", Item: "i"})
	s.want(api.Forbidden, "a@d", api.Request{Verb: api.Retract, Node: "n", Item: "j"})
	s.want(api.NoCond, "p@d", api.Request{Verb: api.Retract, Node: "n", Item: "j"})
	s.items("p@d", "n", api.Item{Id: "k", Publisher: "o@d"})
	s.want(api.Forbidden, "p@d", api.Request{Verb: api.Purge, Node: "n"})
	s.want(api.NoCond, "o@d", api.Request{Verb: api.Purge, Node: "n"})
	s.items("p@d", "n")
	s.want(api.NoCond, "o@d", api.Request{Verb: api.Affiliate, Node: "n", Jid: "p@d", Role: api.NoRole})
	s.node("n", api.Node{Name: "n", Access: api.Authorize, Max: 2, Affs: ownedBy("o@d")})
}

// P14.3: of a collection.
func TestEditsOfCollection(t *testing.T) {
	s := begin(t)
	s.want(api.NoCond, "o@d", api.Request{Verb: api.Create, Node: "c", Collection: true})
	s.want(api.NotAllowed, "o@d", api.Request{Verb: api.Publish, Node: "c", Item: "i"})
	s.want(api.NotAllowed, "o@d", api.Request{Verb: api.Retract, Node: "c", Item: "i"})
	s.want(api.NotAllowed, "o@d", api.Request{Verb: api.Purge, Node: "c"})
	s.want(api.NotAllowed, "x@d", api.Request{Verb: api.Purge, Node: "c"})
	s.want(api.NotAllowed, "x@d", api.Request{Verb: api.Items, Node: "c"})
	s.want(api.BadRequest, "o@d", api.Request{Verb: api.Configure, Node: "c", Max: 1})
	s.want(api.NoCond, "o@d", api.Request{Verb: api.Configure, Node: "c", Access: api.Whitelist})
	s.want(api.NoCond, "o@d", api.Request{Verb: api.Create, Node: "n"})
	s.want(api.NotAllowed, "o@d", api.Request{Verb: api.Nodes, Node: "n"})
}

// P14.3: a node whose text is too long is not written, and nobody is told.
func TestTooLong(t *testing.T) {
	s := begin(t)
	s.want(api.NoCond, "o@d", api.Request{Verb: api.Create, Node: "n"})
	s.want(api.NoCond, "o@d", api.Request{Verb: api.Configure, Node: "n", Max: 8})
	s.want(api.NoCond, "s@d", api.Request{Verb: api.Subscribe, Node: "n"})
	long := strings.Repeat("x", api.MaxText)
	for i := range 7 {
		s.want(api.NoCond, "o@d", api.Request{Verb: api.Publish, Node: "n", Item: "i" + strconv.Itoa(i), Text: long})
	}
	s.want(api.ResourceConstraint, "o@d", api.Request{Verb: api.Publish, Node: "n", Item: "more", Text: long})
	s.want(api.NoCond, "o@d", api.Request{Verb: api.Publish, Node: "n", Item: "i3", Text: long})
	fits := longest(s.m)
	if fits < 1 || fits >= api.MaxText {
		t.Fatal("the longest text that fits has bytes:", fits)
	}
	s.want(api.ResourceConstraint, "o@d", api.Request{Verb: api.Publish, Node: "n", Item: "z", Text: strings.Repeat("y", fits+1)})
	s.want(api.NoCond, "o@d", api.Request{Verb: api.Publish, Node: "n", Item: "z", Text: strings.Repeat("y", fits)})
	if value, _ := s.m.Get("node/n"); len(value) != api.MaxValue {
		t.Error(len(value))
	}
	s.want(api.ResourceConstraint, "t@d", api.Request{Verb: api.Subscribe, Node: "n"})
	s.want(api.ResourceConstraint, "o@d", api.Request{Verb: api.Affiliate, Node: "n", Jid: "t@d", Role: api.Member})
}

// longest is how many bytes a text may have at most, so that it can be published at n.
func longest(m *kv.Map) int {
	most := -1
	for n := range api.MaxText + 1 {
		if _, x, _ := Do(m, "o@d", api.Request{Verb: api.Publish, Node: "n", Item: "z", Text: strings.Repeat("y", n)}); x.Cond == api.NoCond {
			most = n
		}
	}
	return most
}

// P14.3: people are at most so many.
func TestPeople(t *testing.T) {
	s := begin(t)
	s.want(api.NoCond, "o@d", api.Request{Verb: api.Create, Node: "n"})
	for i := range api.MaxPeople {
		s.want(api.NoCond, "s"+strconv.Itoa(i)+"@d", api.Request{Verb: api.Subscribe, Node: "n"})
	}
	s.want(api.ResourceConstraint, "t@d", api.Request{Verb: api.Subscribe, Node: "n"})
	s.want(api.NoCond, "s3@d", api.Request{Verb: api.Subscribe, Node: "n", Depth: 9})
	for i := 1; i < api.MaxPeople; i++ {
		s.want(api.NoCond, "o@d", api.Request{Verb: api.Affiliate, Node: "n", Jid: "m" + strconv.Itoa(i) + "@d", Role: api.Member})
	}
	s.want(api.ResourceConstraint, "o@d", api.Request{Verb: api.Affiliate, Node: "n", Jid: "t@d", Role: api.Member})
}

// P14.3: each condition ahead of those that are named behind it.
func TestAssociate(t *testing.T) {
	s := begin(t)
	for _, name := range []string{"a", "b", "c"} {
		s.want(api.NoCond, "o@d", api.Request{Verb: api.Create, Node: name, Collection: true})
	}
	s.want(api.NoCond, "o@d", api.Request{Verb: api.Create, Node: "n"})
	s.want(api.NoCond, "x@d", api.Request{Verb: api.Create, Node: "xc", Collection: true})
	s.want(api.NoCond, "x@d", api.Request{Verb: api.Create, Node: "xn"})
	s.want(api.Forbidden, "x@d", api.Request{Verb: api.Associate, Node: "n", Parent: "none"})
	s.want(api.Forbidden, "x@d", api.Request{Verb: api.Associate, Node: "n", Parent: "xn"})
	s.want(api.Forbidden, "x@d", api.Request{Verb: api.Associate, Node: "n", Parent: "xc"})
	s.want(api.ItemNotFound, "o@d", api.Request{Verb: api.Associate, Node: "n", Parent: "none"})
	s.want(api.NotAllowed, "o@d", api.Request{Verb: api.Associate, Node: "n", Parent: "xn"})
	s.want(api.NotAllowed, "o@d", api.Request{Verb: api.Associate, Node: "n", Parent: "n"})
	s.want(api.NotAllowed, "o@d", api.Request{Verb: api.Associate, Node: "a", Parent: "n"})
	s.want(api.Forbidden, "o@d", api.Request{Verb: api.Associate, Node: "n", Parent: "xc"})
	s.want(api.Conflict, "o@d", api.Request{Verb: api.Associate, Node: "a", Parent: "a"})
	s.want(api.UnexpectedRequest, "o@d", api.Request{Verb: api.Dissociate, Node: "n"})
	s.told("o@d", api.Request{Verb: api.Associate, Node: "n", Parent: "a"})
	s.told("o@d", api.Request{Verb: api.Associate, Node: "a", Parent: "b"})
	s.told("o@d", api.Request{Verb: api.Associate, Node: "b", Parent: "c"})
	s.want(api.Conflict, "o@d", api.Request{Verb: api.Associate, Node: "b", Parent: "a"})
	s.want(api.Conflict, "o@d", api.Request{Verb: api.Associate, Node: "c", Parent: "a"})
	s.want(api.Conflict, "o@d", api.Request{Verb: api.Associate, Node: "b", Parent: "b"})
	s.names("o@d", "", "c", "xc", "xn")
	s.names("o@d", "a", "n")
	s.told("o@d", api.Request{Verb: api.Associate, Node: "n", Parent: "c"})
	s.names("o@d", "a")
	s.names("o@d", "c", "b", "n")
	s.node("n", api.Node{Name: "n", Max: 4, Parent: "c", Affs: ownedBy("o@d")})
	s.want(api.Forbidden, "x@d", api.Request{Verb: api.Dissociate, Node: "n"})
	s.want(api.Forbidden, "x@d", api.Request{Verb: api.Dissociate, Node: "c"})
	s.told("o@d", api.Request{Verb: api.Dissociate, Node: "n"})
	s.node("n", api.Node{Name: "n", Max: 4, Affs: ownedBy("o@d")})
	s.want(api.UnexpectedRequest, "o@d", api.Request{Verb: api.Dissociate, Node: "n"})
	s.told("o@d", api.Request{Verb: api.Dissociate, Node: "b"})
	s.told("o@d", api.Request{Verb: api.Associate, Node: "c", Parent: "a"})
	s.names("o@d", "", "b", "n", "xc", "xn")
}

// P14.3: of a node of another one's collection its owner may take it out, the collection's may not.
func TestDissociateOwner(t *testing.T) {
	s := begin(t)
	s.put(api.Node{Name: "c", Collection: true, Affs: ownedBy("o@d")})
	s.put(api.Node{Name: "n", Max: 1, Parent: "c", Affs: ownedBy("x@d")})
	s.want(api.Forbidden, "o@d", api.Request{Verb: api.Dissociate, Node: "n"})
	s.want(api.NoCond, "x@d", api.Request{Verb: api.Dissociate, Node: "n"})
}

// P14.4, P14.6
func TestNotes(t *testing.T) {
	s := begin(t)
	s.put(api.Node{Name: "top", Collection: true, Affs: ownedBy("o@d"), Subs: []api.Sub{{Jid: "all@d"}, {Jid: "far@d", Depth: 2}, {Jid: "near@d", Depth: 1}, {Jid: "wait@d", Pending: true}}})
	s.put(api.Node{Name: "c", Collection: true, Parent: "top", Affs: ownedBy("o@d"), Subs: []api.Sub{{Jid: "both@d"}, {Jid: "c@d", Depth: 1}}})
	s.put(api.Node{Name: "n", Max: 1, Parent: "c", Affs: append(ownedBy("o@d"), api.Aff{Jid: "out@d", Role: api.Outcast}), Subs: []api.Sub{{Jid: "both@d", Depth: 4}, {Jid: "n@d"}, {Jid: "out@d"}}})
	to := []string{"all@d", "both@d", "c@d", "far@d", "n@d"}
	notes := func(n api.Note) []api.Note {
		var l []api.Note
		for _, j := range to {
			n.To = j
			l = append(l, n)
		}
		return l
	}
	s.told("o@d", api.Request{Verb: api.Publish, Node: "n", Item: "i", Text: "t"}, notes(api.Note{Node: "n", Item: "i", Text: "t"})...)
	s.told("o@d", api.Request{Verb: api.Publish, Node: "n", Item: "j"}, notes(api.Note{Node: "n", Item: "j"})...)
	s.told("o@d", api.Request{Verb: api.Retract, Node: "n", Item: "j"}, notes(api.Note{Node: "n", Item: "j", Gone: true})...)
	s.told("o@d", api.Request{Verb: api.Purge, Node: "n"}, notes(api.Note{Node: "n", Gone: true})...)
	// Nothing else tells anybody, and what is refused does not.
	s.told("o@d", api.Request{Verb: api.Configure, Node: "n", Max: 0})
	s.told("n@d", api.Request{Verb: api.Subscribe, Node: "n"})
	s.told("o@d", api.Request{Verb: api.Items, Node: "n"})
	s.want(api.Forbidden, "n@d", api.Request{Verb: api.Publish, Node: "n", Item: "k"})
	s.want(api.ItemNotFound, "o@d", api.Request{Verb: api.Retract, Node: "n", Item: "k"})
	// A node that keeps nothing still tells.
	s.told("o@d", api.Request{Verb: api.Publish, Node: "n", Item: "l"}, notes(api.Note{Node: "n", Item: "l"})...)
	s.items("o@d", "n")
	s.told("o@d", api.Request{Verb: api.Dissociate, Node: "n"})
	to = []string{"both@d", "n@d"}
	s.told("o@d", api.Request{Verb: api.Publish, Node: "n", Item: "l"}, notes(api.Note{Node: "n", Item: "l"})...)
	s.told("o@d", api.Request{Verb: api.Configure, Node: "n", Access: api.Whitelist})
	s.told("o@d", api.Request{Verb: api.Publish, Node: "n", Item: "l"})
}

// P14.1
func TestNodes(t *testing.T) {
	s := begin(t)
	n := api.Node{Name: "n", Max: 2, Affs: ownedBy("o@d"), Subs: []api.Sub{{Jid: "s@d"}}, Items: []api.Item{{Id: "i", Publisher: "o@d", Text: "t"}}}
	text, _ := node.Encode(n)
	if len(Nodes(s.m)) != 0 || !Right(s.m) {
		t.Error("of an empty map")
	}
	s.put(n)
	for _, name := range []string{"a", "b-1", "z", "0"} {
		s.put(api.Node{Name: name, Max: 1, Affs: ownedBy("o@d")})
	}
	s.m.Put("log/n/00000001", "x")
	s.m.Put("node", text)
	s.m.Put("nodes/n", text)
	s.m.Put("Node/n", text)
	if !Right(s.m) {
		t.Error("other keys")
	}
	// Pairs that are no node's.
	for key, value := range map[string]string{"node/": text, "node/m": text, "node/N": text, "node/nn": text, "node/q": "", "node/r": "x", "node/s": text + "x", "node/n/": text, "node//n": text} {
		m := s.m.Fork()
		m.Put(key, value)
		if Right(m) {
			t.Errorf("%s: Right", key)
		}
		if n, ok := Node(m, strings.TrimPrefix(key, "node/")); ok || !reflect.DeepEqual(n, api.Node{}) {
			t.Errorf("%s: %+v", key, n)
		}
		wantNodes(t, m, "0", "a", "b-1", "n", "z")
	}
	wantNodes(t, s.m, "0", "a", "b-1", "n", "z")
	s.node("n", n)
	for _, name := range []string{"", "m", "N", "n ", "/n", "../n", "\xff", strings.Repeat("n", 100)} {
		if n, ok := Node(s.m, name); ok || !reflect.DeepEqual(n, api.Node{}) {
			t.Errorf("%q: %+v", name, n)
		}
	}
	// What is answered is the caller's.
	a, b := Nodes(s.m)[3], Nodes(s.m)[3]
	a.Subs[0].Jid, a.Affs[0].Jid, a.Items[0].Id = "spoilt", "spoilt", "spoilt"
	if !node.Same(b, n) {
		t.Errorf("%+v", b)
	}
	s.node("n", n)
}

func wantNodes(t *testing.T, m *kv.Map, want ...string) {
	t.Helper()
	var names []string
	for _, n := range Nodes(m) {
		names = append(names, n.Name)
		if x, ok := Node(m, n.Name); !ok || !node.Same(x, n) {
			t.Errorf("%+v, and alone %+v", n, x)
		}
	}
	if !slices.Equal(names, want) {
		t.Errorf("%q, want %q", names, want)
	}
}

// P14.1
func TestRight(t *testing.T) {
	leaf := func(name, parent string) api.Node {
		return api.Node{Name: name, Parent: parent, Max: 1, Affs: ownedBy("o@d")}
	}
	coll := func(name, parent string) api.Node {
		return api.Node{Name: name, Parent: parent, Collection: true, Affs: ownedBy("o@d")}
	}
	many := func(n int) []api.Node {
		l := []api.Node{coll("c", "")}
		for i := range n - 1 {
			l = append(l, leaf("n"+strconv.Itoa(i), "c"))
		}
		return l
	}
	chain := []api.Node{coll("c0", "")}
	for i := 1; i < api.MaxNodes; i++ {
		chain = append(chain, coll("c"+strconv.Itoa(i), "c"+strconv.Itoa(i-1)))
	}
	for what, x := range map[string]struct {
		nodes []api.Node
		want  bool
	}{
		"none":              {nil, true},
		"one":               {[]api.Node{leaf("n", "")}, true},
		"in a collection":   {[]api.Node{coll("c", ""), leaf("n", "c")}, true},
		"ahead of it":       {[]api.Node{coll("z", ""), leaf("n", "z")}, true},
		"in a leaf":         {[]api.Node{leaf("c", ""), leaf("n", "c")}, false},
		"in nothing":        {[]api.Node{leaf("n", "c")}, false},
		"in itself":         {[]api.Node{coll("c", "c")}, false},
		"a leaf in itself":  {[]api.Node{leaf("n", "n")}, false},
		"a circle":          {[]api.Node{coll("a", "b"), coll("b", "a")}, false},
		"a circle of three": {[]api.Node{coll("a", "b"), coll("b", "c"), coll("c", "a"), leaf("n", "a")}, false},
		"as many as may be": {many(api.MaxNodes), true},
		"one too many":      {many(api.MaxNodes + 1), false},
		"a chain":           {chain, true},
	} {
		s := begin(t)
		for _, n := range x.nodes {
			s.put(n)
		}
		if Right(s.m) != x.want || modelRight(worldOf(s.m)) != x.want {
			t.Errorf("%s: %v", what, Right(s.m))
		}
	}
}
