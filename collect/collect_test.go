package collect

import (
	"fmt"
	"math/rand"
	"slices"
	"strings"
	"testing"

	"heliograph/api"
)

// edges are those of texts, child and parent by turns.
func edges(names ...string) []api.Edge {
	var l []api.Edge
	for i := 0; i < len(names); i += 2 {
		l = append(l, api.Edge{Child: names[i], Parent: names[i+1]})
	}
	return l
}

// chain are so many edges, each child in the next one.
func chain(n int) []api.Edge {
	var l []api.Edge
	for i := range n {
		l = append(l, api.Edge{Child: fmt.Sprint(100 + i), Parent: fmt.Sprint(101 + i)})
	}
	return l
}

// The document read a second time: what is above what is found by joining pairs until there are no new ones.

type pair [2]string

func modelAbove(l []api.Edge) map[pair]bool {
	above := map[pair]bool{}
	for _, e := range l {
		above[pair{e.Parent, e.Child}] = true
	}
	for grown := true; grown; {
		grown = false
		for p := range above {
			for _, e := range l {
				if q := (pair{e.Parent, p[1]}); e.Child == p[0] && !above[q] {
					above[q], grown = true, true
					break
				}
			}
			if grown {
				break
			}
		}
	}
	return above
}

func modelRight(l []api.Edge) bool {
	if len(l) > 64 {
		return false
	}
	for i, e := range l {
		if e.Child == "" || e.Parent == "" || i > 0 && strings.Compare(l[i-1].Child, e.Child) >= 0 {
			return false
		}
	}
	for p := range modelAbove(l) {
		if p[0] == p[1] {
			return false
		}
	}
	return true
}

func modelAdd(l []api.Edge, child, parent string) ([]api.Edge, api.Errno) {
	if !modelRight(l) || child == "" || parent == "" {
		return nil, api.ErrForm
	}
	if child == parent || modelAbove(l)[pair{child, parent}] {
		return nil, api.ErrCycle
	}
	rest, errno := modelRemove(l, child)
	if errno != api.OK {
		rest = slices.Clone(l)
	}
	if len(rest) == 64 {
		return nil, api.ErrFull
	}
	rest = append(rest, api.Edge{Child: child, Parent: parent})
	slices.SortFunc(rest, func(a, b api.Edge) int { return strings.Compare(a.Child, b.Child) })
	return rest, api.OK
}

func modelRemove(l []api.Edge, child string) ([]api.Edge, api.Errno) {
	if !modelRight(l) {
		return nil, api.ErrForm
	}
	var rest []api.Edge
	for _, e := range l {
		if e.Child != child {
			rest = append(rest, e)
		}
	}
	if len(rest) == len(l) {
		return nil, api.ErrNone
	}
	return rest, api.OK
}

// modelAsked are Kids, Above and Below of a name; how near one is above is how many of those above are below it.
func modelAsked(l []api.Edge, name string) (kids, up, down []string) {
	if !modelRight(l) {
		return nil, nil, nil
	}
	above := modelAbove(l)
	for _, e := range l {
		if e.Parent == name {
			kids = append(kids, e.Child)
		}
	}
	for p := range above {
		if p[1] == name {
			up = append(up, p[0])
		}
		if p[0] == name {
			down = append(down, p[1])
		}
	}
	slices.SortFunc(up, func(a, b string) int {
		if above[pair{b, a}] {
			return -1
		}
		return 1
	})
	slices.Sort(down)
	return kids, up, down
}

// spoil writes all over a list, and over the room behind it.
func spoil[T any](l []T) {
	clear(l[:cap(l)])
}

// changes holds Add and Remove of a list against the document, and asks that nothing is shared.
func changes(t *testing.T, l []api.Edge, child, parent string) {
	t.Helper()
	for i, call := range []func(l []api.Edge) ([]api.Edge, api.Errno){
		func(l []api.Edge) ([]api.Edge, api.Errno) { return Add(l, child, parent) },
		func(l []api.Edge) ([]api.Edge, api.Errno) { return Remove(l, child) },
	} {
		want, errno := modelAdd(l, child, parent)
		if i == 1 {
			want, errno = modelRemove(l, child)
		}
		room := append(slices.Clone(l), api.Edge{Child: "spare"}, api.Edge{Child: "room"})
		was := slices.Clone(room)
		handed := room[:len(l)]
		got, e := call(handed)
		if !slices.Equal(got, want) || e != errno {
			t.Fatalf("%d of %q, %q, %q: %q, %d; want %q, %d", i, l, child, parent, got, e, want, errno)
		}
		if e == api.OK && !Right(got) {
			t.Fatalf("%d of %q, %q, %q: not right: %q", i, l, child, parent, got)
		}
		spoil(got)
		if !slices.Equal(room, was) {
			t.Fatalf("%d of %q: what was handed in has changed", i, l)
		}
		got, _ = call(handed)
		spoil(room)
		if !slices.Equal(got, want) {
			t.Fatalf("%d of %q: what is answered lies in what was handed in", i, l)
		}
	}
}

// tells holds all that a list is asked against the document.
func tells(t *testing.T, l []api.Edge, name string) {
	t.Helper()
	kids, up, down := modelAsked(l, name)
	if got := Kids(l, name); !slices.Equal(got, kids) {
		t.Fatalf("Kids of %q, %q: %q; want %q", l, name, got, kids)
	}
	if got := Above(l, name); !slices.Equal(got, up) {
		t.Fatalf("Above of %q, %q: %q; want %q", l, name, got, up)
	}
	if got := Below(l, name); !slices.Equal(got, down) {
		t.Fatalf("Below of %q, %q: %q; want %q", l, name, got, down)
	}
	want := ""
	if len(up) > 0 {
		want = up[0]
	}
	if got, ok := Parent(l, name); got != want || ok != (len(up) > 0) {
		t.Fatalf("Parent of %q, %q: %q, %v; want %q", l, name, got, ok, want)
	}
}

// P12.1: what is right, and what is not, written out.
func TestRight(t *testing.T) {
	for _, l := range [][]api.Edge{nil, {}, edges("a", "b"), edges("a", "b", "b", "c"), edges("a", "c", "b", "c"), edges("a", "z", "b", "a", "c", "b"), edges("A", "a", "a", "b"), edges("\x00", "\xff"), edges(" ", "_"), chain(64)} {
		if !Right(l) || !modelRight(l) {
			t.Errorf("not right: %q", l)
		}
	}
	for _, l := range [][]api.Edge{
		edges("", "b"), edges("a", ""), edges("", ""), edges("a", "b", "b", ""), edges("", "c", "b", "c"), edges("a", "a"), edges("a", "b", "b", "a"), edges("a", "b", "b", "c", "c", "a"),
		edges("a", "b", "b", "c", "c", "b"), edges("a", "b", "c", "d", "d", "d"), edges("a", "x", "b", "c", "c", "d", "d", "b"), edges("a", "b", "a", "b"), edges("a", "b", "a", "c"),
		edges("b", "c", "a", "c"), edges("a", "b", "c", "d", "b", "e"), edges("ab", "x", "a", "x"), edges("a", "x", "\xff", "x", "b", "x"), chain(65), chain(1000), append(chain(63), edges("163", "100")...),
	} {
		if Right(l) || modelRight(l) {
			t.Errorf("right: %q", l)
		}
	}
}

// P12.1: Add, written out; errors in the document's order.
func TestAdd(t *testing.T) {
	l := edges("a", "b", "b", "c")
	for _, c := range []struct {
		l             []api.Edge
		child, parent string
		want          []api.Edge
		errno         api.Errno
	}{
		{nil, "a", "b", edges("a", "b"), api.OK}, {l, "c", "d", edges("a", "b", "b", "c", "c", "d"), api.OK}, {l, "A", "c", edges("A", "c", "a", "b", "b", "c"), api.OK}, {l, "aa", "a", edges("a", "b", "aa", "a", "b", "c"), api.OK},
		{l, "a", "c", edges("a", "c", "b", "c"), api.OK}, {l, "a", "b", l, api.OK}, {l, "b", "x", edges("a", "b", "b", "x"), api.OK},
		{l, "c", "a", nil, api.ErrCycle}, {l, "c", "b", nil, api.ErrCycle}, {l, "b", "a", nil, api.ErrCycle}, {l, "a", "a", nil, api.ErrCycle}, {l, "x", "x", nil, api.ErrCycle}, {nil, "x", "x", nil, api.ErrCycle},
		{l, "", "b", nil, api.ErrForm}, {l, "a", "", nil, api.ErrForm}, {l, "", "", nil, api.ErrForm}, {nil, "", "", nil, api.ErrForm}, {edges("b", "c", "a", "b"), "x", "x", nil, api.ErrForm}, {edges("a", "a"), "x", "y", nil, api.ErrForm},
		{chain(63), "x", "y", append(chain(63), edges("x", "y")...), api.OK}, {chain(64), "x", "y", nil, api.ErrFull}, {chain(64), "x", "x", nil, api.ErrCycle}, {chain(64), "164", "100", nil, api.ErrCycle}, {chain(64), "x", "", nil, api.ErrForm},
		{chain(64), "100", "y", append(edges("100", "y"), chain(64)[1:]...), api.OK}, {chain(65), "100", "y", nil, api.ErrForm}, {chain(65), "x", "y", nil, api.ErrForm},
	} {
		if got, errno := Add(c.l, c.child, c.parent); !slices.Equal(got, c.want) || errno != c.errno {
			t.Errorf("%q, %q, %q: %q, %d", c.l, c.child, c.parent, got, errno)
		}
		changes(t, c.l, c.child, c.parent)
	}
}

// P12.1: Remove, written out.
func TestRemove(t *testing.T) {
	l := edges("a", "b", "b", "c", "d", "c")
	for child, want := range map[string][]api.Edge{"a": l[1:], "b": edges("a", "b", "d", "c"), "d": l[:2]} {
		if got, errno := Remove(l, child); !slices.Equal(got, want) || errno != api.OK {
			t.Errorf("%q: %q, %d", child, got, errno)
		}
	}
	for _, child := range []string{"c", "", "A", "aa", "\xff"} {
		if got, errno := Remove(l, child); len(got) != 0 || errno != api.ErrNone {
			t.Errorf("%q: %q, %d", child, got, errno)
		}
		if got, errno := Remove(edges("a", "a"), child); len(got) != 0 || errno != api.ErrForm {
			t.Errorf("%q: %q, %d", child, got, errno)
		}
	}
	if got, errno := Remove(edges("a", "b"), "a"); len(got) != 0 || errno != api.OK {
		t.Errorf("%q, %d", got, errno)
	}
}

// P12.2: what is asked, written out.
func TestAsked(t *testing.T) {
	l := edges("a", "m", "b", "m", "c", "k", "m", "k", "x", "y", "z", "a")
	for _, c := range []struct{ name, kids, up, down string }{
		{"k", "c m", "", "a b c m z"}, {"m", "a b", "k", "a b z"}, {"a", "z", "m k", "z"}, {"b", "", "m k", ""}, {"z", "", "a m k", ""}, {"x", "", "y", ""}, {"y", "x", "", "x"}, {"", "", "", ""}, {"nobody", "", "", ""}, {"K", "", "", ""},
	} {
		if got := strings.Join(Kids(l, c.name), " "); got != c.kids {
			t.Errorf("Kids of %q: %q", c.name, got)
		}
		if got := strings.Join(Above(l, c.name), " "); got != c.up {
			t.Errorf("Above of %q: %q", c.name, got)
		}
		if got := strings.Join(Below(l, c.name), " "); got != c.down {
			t.Errorf("Below of %q: %q", c.name, got)
		}
		tells(t, l, c.name)
	}
	if p, ok := Parent(l, "c"); p != "k" || !ok {
		t.Error(p, ok)
	}
	if p, ok := Parent(l, "k"); p != "" || ok {
		t.Error(p, ok)
	}
}

// P12.2: of edges that are not right nothing is told.
func TestAskedOfWrong(t *testing.T) {
	for _, l := range [][]api.Edge{edges("a", "b", "b", "a"), edges("b", "c", "a", "c"), edges("a", "c", "a", "d"), edges("a", ""), edges("", "c"), chain(65)} {
		for _, name := range []string{"", "a", "b", "c", "100", "101"} {
			if p, ok := Parent(l, name); p != "" || ok || len(Kids(l, name)) != 0 || len(Above(l, name)) != 0 || len(Below(l, name)) != 0 {
				t.Errorf("%q, %q", l, name)
			}
		}
	}
}

// P12.2: the longest chain, from both of its ends.
func TestLongest(t *testing.T) {
	l := chain(64)
	up, down := Above(l, "100"), Below(l, "164")
	if len(up) != 64 || up[0] != "101" || up[63] != "164" || len(down) != 64 || down[0] != "100" || down[63] != "163" {
		t.Errorf("%q, %q", up, down)
	}
}

// P12.1, P12.2: all lists of up to three edges of a few names.
func TestSmall(t *testing.T) {
	names := []string{"", "a", "b", "c"}
	right := 0
	var try func(l []api.Edge, n int)
	try = func(l []api.Edge, n int) {
		if Right(l) != modelRight(l) {
			t.Fatalf("%q: %v", l, Right(l))
		}
		if Right(l) {
			right++
		}
		for _, name := range names {
			tells(t, l, name)
			changes(t, l, name, names[(len(l)+len(name))%4])
		}
		if n == 0 {
			return
		}
		for _, child := range names {
			for _, parent := range names {
				try(append(slices.Clone(l), api.Edge{Child: child, Parent: parent}), n-1)
			}
		}
	}
	try(nil, 3)
	// So many forests there are of three names.
	if right != 16 {
		t.Errorf("%d are right", right)
	}
}

// P12.1, P12.2, P12.4: long ways of adding and removing; each list is right, and tells what the document says.
func TestWays(t *testing.T) {
	r := rand.New(rand.NewSource(12))
	met := map[api.Errno]int{}
	for range 10 {
		var l []api.Edge
		count := 4 + r.Intn(90)
		name := func() string { return fmt.Sprint(r.Intn(count)) }
		for range 120 {
			child, parent := name(), name()
			changes(t, l, child, parent)
			tells(t, l, child)
			next, errno := Add(l, child, parent)
			if r.Intn(6) == 0 {
				next, errno = Remove(l, child)
			}
			if met[errno]++; errno == api.OK {
				l = next
			}
			if !Right(l) {
				t.Fatalf("%q", l)
			}
		}
	}
	for _, e := range []api.Errno{api.OK, api.ErrCycle, api.ErrNone} {
		if met[e] < 20 {
			t.Errorf("the error %d only %d times", e, met[e])
		}
	}
}
