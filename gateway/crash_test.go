package gateway

import (
	"fmt"
	"strconv"
	"strings"
	"testing"

	"heliograph/api"
)

// lasting is all of a server that is to outlast a loss of power.
func lasting(s *Server) string {
	return fmt.Sprintf("%+v %q %q %q", s.Nodes(), s.Stored("ann"), s.Stored("bob"), s.Stored("cy"))
}

// survivals are lists of what may survive of so many writes: all of them, as far as these are few.
func survivals(writes int) [][]bool {
	l := [][]bool{nil}
	for bits := range 1 << min(writes, 6) {
		var one []bool
		for k := range writes {
			one = append(one, bits>>(k%6)&1 == 1)
		}
		l = append(l, one)
	}
	return l
}

// crashed lets the power go in the midst of what a connection is fed, in each way, and asks that all is as it was, or as it was to be.
func (w world) crashed(c int, in, after string) {
	w.Helper()
	before := lasting(w.Server)
	seen := map[string]int{}
	for writes := range 12 {
		for _, survive := range survivals(writes) {
			f := world{w.T, w.Fork()}
			if errno := f.Crash(c, []byte(in), writes, survive); errno != api.OK {
				w.Fatal("Crash: error", errno)
			}
			got := lasting(f.Server)
			if got != before && got != after {
				w.Fatalf("behind %d writes %v\n%s: neither\n%s nor\n%s", writes, survive, got, before, after)
			}
			seen[got]++
			f.isDown()
		}
	}
	if before != after && len(seen) != 2 {
		w.Errorf("%q: seen %v", in, seen)
	}
}

// isDown asks that nothing but what lasts is there.
func (w world) isDown() {
	w.Helper()
	for i := range w.next {
		w.hears(i, "")
		w.isClosed(i)
	}
	for i := range w.next {
		c := w.known("bob")
		w.says(c, resume("t"+strconv.Itoa(i), 0), "<failed><item-not-found/></failed>")
		w.cut(c)
	}
}

// P15.6, P15.8: the power goes while a request is saved.
func TestCrashOfRequest(t *testing.T) {
	w, ann := news(t)
	w.cut(w.bound("bob", "y", "<enable/><presence/>"))
	w.bound("bob", "z", "<enable/><presence/>")
	w.Feed(ann, []byte("<message/>"))
	for _, in := range []string{publish("n", "i", "t"), create("m"), set("1", "<remove node='n'/>"), set("1", "<purge node='n'/>")} {
		f := w.Fork()
		f.Feed(ann, []byte(in))
		w.crashed(ann, in+"<message/>"+create("o"), lasting(f))
	}
}

// The same while what was acknowledged, or told, is taken out of the log.
func TestCrashOfStriking(t *testing.T) {
	w, ann := news(t)
	bob := w.bound("bob", "y", "<enable/><presence/>")
	w.tells(ann, "a", "b", "c")
	for _, c := range []struct {
		first string
		left  int
	}{{acked(1), 2}, {acked(2), 1}, {acked(3), 0}, {acked(0), 3}, {"<r/>", 3}} {
		f := w.Fork()
		f.Feed(bob, []byte(c.first))
		if len(f.Stored("bob")) != c.left {
			t.Fatalf("%q: %q", c.first, f.Stored("bob"))
		}
		in := c.first + acked(3) + create("o")
		if c.left == 3 {
			in = c.first
		}
		w.crashed(bob, in, lasting(f))
	}
	w.cut(bob)
	c := w.known("bob")
	in := resume("t"+strconv.Itoa(bob), 2)
	f := w.Fork()
	f.Feed(c, []byte(in))
	w.crashed(c, in+acked(3)+create("o"), lasting(f))
	d := w.bound("bob", "z")
	f = w.Fork()
	f.Feed(d, []byte("<presence/>"))
	w.crashed(d, "<presence/>"+create("o"), lasting(f))
}

// P15.6: what is not to be saved is not where the power goes; and nothing happens behind that.
func TestFirstSave(t *testing.T) {
	w := newWorld(t)
	ann := w.bound("ann", "x", create("n"), subscribe("n"))
	before := lasting(w.Server)
	idle := subscribe("n") + create("n") + get("1", "<nodes node=''/>") + get("1", "<items node='n'/>") + set("1", "<x/>") + "<message/><presence/><enable/>" + acked(0) + set("1", "<configure node='n' access='open' max='4'/>")
	for name, c := range map[string]struct {
		in     string
		writes int
		nodes  string
	}{
		"nothing is saved":           {idle, 9, "n"},
		"saved whole":                {create("a") + create("b"), 9, "a n"},
		"lost":                       {create("a") + create("b"), 0, "n"},
		"behind what saves nothing":  {idle + create("a") + create("b"), 9, "a n"},
		"lost behind that":           {idle + create("a"), 0, "n"},
		"a failure first":            {"<x/>" + create("a"), 9, "n"},
		"without bytes":              {"", 9, "n"},
		"an element that is not all": {create("a")[:20], 9, "n"},
	} {
		f := world{t, w.Fork()}
		if errno := f.Crash(ann, []byte(c.in), c.writes, []bool{true, true, true, true, true}); errno != api.OK {
			t.Error(errno)
		}
		var nodes []string
		for _, n := range f.Nodes() {
			nodes = append(nodes, n.Name)
		}
		if got := strings.Join(nodes, " "); got != c.nodes {
			t.Errorf("%s: nodes %s, want %s", name, got, c.nodes)
		}
		f.isDown()
	}
	if lasting(w.Server) != before {
		t.Error("a Fork's crash is the server's")
	}
}

// P15.6: what may not be changes nothing.
func TestWrongCrash(t *testing.T) {
	w, ann := news(t)
	bob := w.bound("bob", "y", "<enable/><presence/>")
	w.Feed(bob, []byte("<message/>"))
	for _, writes := range []int{-1, -1 << 63} {
		if errno := w.Crash(ann, []byte(create("m")), writes, []bool{true}); errno != api.ErrRange {
			t.Error(errno)
		}
	}
	if errno := w.Crash(99, []byte(create("m")), 0, nil); errno != api.ErrNone {
		t.Error(errno)
	}
	w.hears(bob, unserved)
	if len(w.Nodes()) != 1 || !w.Open(ann) || !w.Open(bob) {
		t.Error("something changed")
	}
}

// What does not fit is not saved, and there the power goes all the same.
func TestCrashWithoutRoom(t *testing.T) {
	w := world{t, New("d", 4, people()...)}
	ann := w.bound("ann", "x", create("n"))
	before := lasting(w.Server)
	w.Crash(ann, []byte(publish("n", "i", strings.Repeat("x", 64))+set("1", "<remove node='n'/>")), 9, []bool{true, true, true})
	if got := lasting(w.Server); got != before {
		t.Errorf("%s, want %s", got, before)
	}
	w.isDown()
}

// What waited to be taken, also of closed ones, is gone; the server goes on as ever.
func TestBehindCrash(t *testing.T) {
	w, ann := news(t)
	w.tells(ann, "a")
	gone := w.connect()
	w.Feed(gone, []byte("<x/>"))
	bob := w.bound("bob", "y", "<enable/>")
	w.Feed(bob, []byte("<presence/>"))
	if errno := w.Crash(ann, []byte("<message/>"), 0, nil); errno != api.OK {
		t.Error(errno)
	}
	w.isDown()
	ann = w.bound("ann", "x")
	w.tells(ann, "b")
	w.stores("bob", heard("a", "b")...)
	bob = w.bound("bob", "y")
	w.says(bob, "<presence/>", all(heard("a", "b")))
	w.tells(ann, "c")
	w.hears(bob, all(heard("c")))
	w.stores("bob")
}
