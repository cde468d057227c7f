package gateway

import (
	"slices"
	"strconv"
	"strings"
	"testing"

	"heliograph/api"
)

// P15.1: who may be a server.
func TestNew(t *testing.T) {
	one := User{"a", "b"}
	many := func(n int) (l []User) {
		for i := range n {
			l = append(l, User{"u" + strconv.Itoa(i), "s"})
		}
		return l
	}
	right := []struct {
		domain  string
		sectors int
		users   []User
	}{
		{"d", 4, []User{one}}, {"d", api.MaxSectors, []User{one}}, {"d", 200, many(api.MaxUsers)}, {"d-_.9", 200, []User{one}}, {strings.Repeat("d", 20), 200, []User{one}},
		{"d", 200, []User{{strings.Repeat("a", 24), strings.Repeat("Z", 32)}}}, {"d", 200, []User{{"-0z", "azAZ09"}}}, {"d", 200, []User{{"a", "s"}, {"b", "s"}}},
	}
	for _, r := range right {
		if New(r.domain, r.sectors, r.users...) == nil {
			t.Errorf("%+v may not be", r)
		}
	}
	for _, domain := range []string{"", "D", "dD", "a@d", "d/r", "@", "/", " ", "d ", "\u00e9", "d'", strings.Repeat("d", 21)} {
		if New(domain, 200, one) != nil {
			t.Errorf("domain %q may be", domain)
		}
	}
	for _, n := range []int{-1 << 62, -1, 0, 1, 3, api.MaxSectors + 1, 1 << 62} {
		if New("d", n, one) != nil {
			t.Errorf("%d sectors may be", n)
		}
	}
	for _, users := range [][]User{nil, many(api.MaxUsers + 1), {{"a", "b"}, {"c", "d"}, {"a", "e"}}, {{"a", "b"}, {"a", "b"}}} {
		if New("d", 200, users...) != nil {
			t.Errorf("users %v may be", users)
		}
	}
	for _, name := range []string{"", "A", "a_b", "a.b", "a b", "a@d", "a/b", "\u00e9", "a\x00", strings.Repeat("a", 25)} {
		if New("d", 200, one, User{name, "b"}) != nil {
			t.Errorf("user %q may be", name)
		}
	}
	for _, secret := range []string{"", "-", "a b", "a.", "\u00e9", "a\x00", "@", "[", "`", "{", "/", ":", strings.Repeat("a", 33)} {
		if New("d", 200, User{"c", secret}, one) != nil {
			t.Errorf("secret %q may be", secret)
		}
	}
}

// P15.1: a device without room holds nothing, but there is a server.
func TestLeastServer(t *testing.T) {
	w := world{t, New("d", 4, people()...)}
	ann := w.bound("ann", "x")
	w.says(ann, create("n"), result("c"))
	w.says(ann, publish("n", "i", strings.Repeat("x", 64)), refused("p", "wait", "resource-constraint"))
}

// P1, P15.1 to P15.6: a nil server.
func TestNilServer(t *testing.T) {
	var s *Server
	if n, errno := s.Connect(); n != 0 || errno != api.ErrNil {
		t.Error(n, errno)
	}
	for _, n := range []int{-1, 0, 1} {
		if s.Feed(n, []byte("<a>")) != api.ErrNil || s.Cut(n) != api.ErrNil || s.Out(n) != nil || s.Open(n) || s.Crash(n, nil, -1, nil) != api.ErrNil {
			t.Error(n)
		}
		if j, ok := s.Jid(n); j != "" || ok {
			t.Error(j, ok)
		}
	}
	if s.Tick() != api.ErrNil || s.Nodes() != nil || s.Stored("ann") != nil || s.Fork() != nil {
		t.Error("of nil there is something")
	}
}

// P15.1: numbers rise, each once, and MaxConns may be open.
func TestConnect(t *testing.T) {
	w := newWorld(t)
	for i := range api.MaxConns {
		if n := w.connect(); n != i || !w.Open(n) {
			t.Error(n, i)
		}
	}
	full := func() {
		t.Helper()
		if n, errno := w.Connect(); n != 0 || errno != api.ErrFull {
			t.Error(n, errno)
		}
	}
	full()
	w.cut(3)
	if n := w.connect(); n != api.MaxConns {
		t.Error(n)
	}
	full()
	w.fails(5, "<x>", "<stream>", "host-unknown")
	w.says(6, greeting+"</stream>", welcome("6")+"</stream>")
	if a, b := w.connect(), w.connect(); a != 9 || b != 10 {
		t.Error(a, b)
	}
	full()
	if w.Crash(0, nil, 0, nil) != api.OK || w.connect() != 11 {
		t.Error("numbers begin anew")
	}
}

// P15.1: who is not open has no calls but Out.
func TestNotOpen(t *testing.T) {
	w := newWorld(t)
	w.connect()
	w.cut(w.connect())
	for _, n := range []int{-1 << 63, -1, 1, 2, 1<<63 - 1} {
		w.isClosed(n)
		if w.Crash(n, nil, -1, nil) != api.ErrNone || len(w.Out(n)) != 0 {
			t.Error(n)
		}
	}
	if !w.Open(0) {
		t.Error("0 is closed")
	}
}

// P15.1: what was sent is taken once, also of one that is closed.
func TestOut(t *testing.T) {
	w := newWorld(t)
	c := w.connect()
	w.hears(c, "")
	w.says(c, greeting, welcome("0"))
	w.hears(c, "")
	w.Feed(c, []byte(authOf("ann")))
	w.Feed(c, []byte("<bind>x</bind>"))
	w.cut(c)
	d := w.connect()
	w.says(d, greeting, welcome("1"))
	w.hears(c, "<success/><bound>ann@d/x</bound>")
	w.hears(c, "")
	w.says(d, "</stream>", "</stream>")
	w.hears(d, "")
}

// P15.1: a ghost stays for three Ticks.
func TestTicks(t *testing.T) {
	for ticks := range 5 {
		w := newWorld(t)
		w.cut(w.bound("bob", "y", "<enable/>"))
		w.tick()
		w.cut(w.bound("bob", "z", "<enable/>"))
		for range ticks {
			w.tick()
		}
		for i, gone := range []bool{ticks >= 2, ticks >= 3} {
			c := w.known("bob")
			token := "t" + strconv.Itoa(i)
			want := "<resumed previd='" + token + "' h='0'/>"
			if gone {
				want = "<failed><item-not-found/></failed>"
			}
			w.says(c, "<resume previd='"+token+"' h='0'/>", want)
		}
	}
}

// P15.1: a ghost is a connection that was bound and managed, and was cut.
func TestNoGhosts(t *testing.T) {
	for name, end := range map[string]func(w world){
		"not managed": func(w world) { w.cut(w.bound("bob", "y")) },
		"known":       func(w world) { w.cut(w.known("bob")) },
		"fresh":       func(w world) { w.cut(w.connect()) },
		"ended":       func(w world) { w.says(w.bound("bob", "y", "<enable/>"), "</stream>", "</stream>") },
		"failed":      func(w world) { w.fails(w.bound("bob", "y", "<enable/>"), "<x/>", "", "unsupported-stanza-type") },
		"crashed": func(w world) {
			if errno := w.Crash(w.bound("bob", "y", "<enable/>"), nil, 0, nil); errno != api.OK {
				t.Error(errno)
			}
		},
		"a ghost when the power goes": func(w world) {
			w.cut(w.bound("bob", "y", "<enable/>"))
			w.Crash(w.connect(), nil, 0, nil)
		},
		"conflict": func(w world) {
			c := w.bound("bob", "y", "<enable/>")
			w.bound("bob", "y")
			w.hears(c, "<error><conflict/></error></stream>")
		},
	} {
		t.Run(name, func(t *testing.T) {
			w := newWorld(t)
			end(w)
			for _, token := range []string{"t0", "t1", "", "t"} {
				w.says(w.known("bob"), "<resume previd='"+token+"' h='0'/>", "<failed><item-not-found/></failed>")
			}
		})
	}
}

// P15.6: Nodes are the service's, with all that is in them, and Stored are each user's own.
func TestNodesAndStored(t *testing.T) {
	w, ann := news(t)
	w.says(ann, set("1", "<create node='m' type='collection'/>")+set("2", "<associate node='n' parent='m'/>"), result("1")+result("2"))
	w.tells(ann, "i", "j")
	l := w.Nodes()
	if len(l) != 2 || l[0].Name != "m" || !l[0].Collection || l[1].Name != "n" || l[1].Parent != "m" || len(l[1].Items) != 2 || l[1].Subs[0].Jid != "bob@d" {
		t.Errorf("%+v", l)
	}
	w.stores("bob", heard("i", "j")...)
	for _, name := range []string{"", "ann", "cy", "b", "bo", "bobb", "bob/", "/bob", "bob/0000000", "log/bob", "zed", "\x00"} {
		w.stores(name)
	}
}

// P4, P15.6: of a server and its Fork each goes its own way.
func TestFork(t *testing.T) {
	build := func() (world, int) {
		w, ann := news(t)
		bob := w.bound("bob", "y", "<presence/><enable/>") // 3
		w.tells(ann, "i", "j")
		w.cut(bob)
		w.bound("bob", "z", "<enable/><presence/>") // 4
		w.Feed(w.connect(), []byte(greeting+authOf("cy")+"<bi"))
		w.Feed(w.known("cy"), []byte("<bind>r</bind><presence><a>x</a>"))
		w.cut(w.known("ann"))
		return w, ann
	}
	all := func(w world) string {
		t.Helper()
		ann := 1
		s := ""
		w.Feed(5, []byte("nd>q</bind>"))
		w.Feed(6, []byte("</presence>"))
		w.Feed(ann, []byte(publish("n", "k", "t")))
		w.Feed(4, []byte("<a h='1'/><r/>"))
		w.tick()
		c := w.known("bob")
		w.Feed(c, []byte("<resume previd='t3' h='1'/>"))
		for i := range 9 {
			j, _ := w.Jid(i)
			s += string(w.Out(i)) + j + strconv.FormatBool(w.Open(i))
		}
		return s + strings.Join(w.Stored("bob"), "") + strconv.Itoa(len(w.Nodes()[0].Items)) + strconv.Itoa(w.connect())
	}
	spoil := func(w world) {
		for i := range 9 {
			w.Feed(i, []byte("<x/>"))
			w.Feed(i, []byte("</presence>"))
			b := w.Out(i)
			for k := range b {
				b[k] = '!'
			}
			w.Cut(i)
		}
		for range 4 {
			w.tick()
		}
		ann := w.bound("ann", "q", set("1", "<purge node='n'/>"))
		w.Feed(ann, []byte(set("2", "<remove node='n'/>")))
		w.Crash(ann, []byte(create("o")), 0, nil)
	}
	w, _ := build()
	want := all(w)
	if !strings.Contains(want, "<resumed previd='t3'") || !strings.Contains(want, "cy@d/qtrue") {
		t.Fatalf("%q", want)
	}
	for _, later := range []bool{false, true} {
		w, _ := build()
		f := world{t, w.Fork()}
		if later {
			w, f = f, w
		}
		spoil(w)
		if got := all(f); got != want {
			t.Errorf("behind a Fork (%v)\n%q, want\n%q", later, got, want)
		}
	}
}

// P3: what is handed in stays, and is not kept; what is answered is the caller's.
func TestSharing(t *testing.T) {
	users := append(people(), User{"spare", "room"})
	kept := slices.Clone(users)
	s := New("d", 200, users[:3]...)
	if !slices.Equal(users, kept) {
		t.Error(users)
	}
	for i := range users {
		users[i] = User{"zed", "z"}
	}
	w := world{t, s}
	ann := w.bound("ann", "x", create("n"), subscribe("n"), publish("n", "i", "t"))
	room := []byte(publish("n", "j", "t") + " spare")
	same := string(room)
	w.Feed(ann, room[:len(room)-10])
	if string(room) != same {
		t.Errorf("%q", room)
	}
	for i := range room {
		room[i] = '!'
	}
	w.says(ann, same[len(same)-10:len(same)-6], result("p"))
	survive := append(make([]bool, 0, 9), true, false)
	f := w.Fork()
	f.Crash(ann, []byte(create("m")), 2, survive)
	if !slices.Equal(survive[:3], []bool{true, false, false}) {
		t.Error(survive[:3])
	}
	l := w.Nodes()
	l[0].Items[0].Text, l[0].Subs[0].Jid, l[0].Affs[0].Jid = "spoilt", "spoilt", "spoilt"
	st := w.Stored("ann")
	st[0] = "spoilt"
	w.stores("ann", itemOf("ann", "n", "i", "t"), itemOf("ann", "n", "j", "t"))
	if n := w.Nodes()[0]; n.Items[0].Text != "t" || n.Subs[0].Jid != "ann@d" || n.Affs[0].Jid != "ann@d" {
		t.Errorf("%+v", n)
	}
	w.Feed(ann, []byte("<message/>"))
	b := w.Out(ann)
	_ = append(b[:0], "spoilt"...)
	w.says(ann, "<presence/>", itemOf("ann", "n", "i", "t")+itemOf("ann", "n", "j", "t"))
}
