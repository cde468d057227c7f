package gateway

import (
	"encoding/base64"
	"slices"
	"strings"
	"testing"

	"heliograph/api"
)

// world is a server, and what is said to it.
type world struct {
	*testing.T
	*Server
}

func people() []User {
	return []User{{"ann", "pa"}, {"bob", "pb"}, {"cy", "pc"}}
}

func newWorld(t *testing.T) world {
	t.Helper()
	s := New("d", 200, people()...)
	if s == nil {
		t.Fatal("no server")
	}
	return world{t, s}
}

func (w world) connect() int {
	w.Helper()
	c, errno := w.Connect()
	if errno != api.OK {
		w.Fatal("Connect: error", errno)
	}
	return c
}

// says feeds a connection, and asks what it is sent.
func (w world) says(c int, in, want string) {
	w.Helper()
	if errno := w.Feed(c, []byte(in)); errno != api.OK {
		w.Errorf("Feed(%d, %q): error %d", c, in, errno)
	}
	w.hears(c, want)
}

func (w world) hears(c int, want string) {
	w.Helper()
	if got := string(w.Out(c)); got != want {
		w.Errorf("connection %d is sent\n%q, want\n%q", c, got, want)
	}
}

// fails feeds a connection, and asks that it is closed, with that error behind what it is sent else.
func (w world) fails(c int, in, ahead, name string) {
	w.Helper()
	w.says(c, in, ahead+"<error><"+name+"/></error></stream>")
	w.isClosed(c)
}

func (w world) isClosed(c int) {
	w.Helper()
	if j, ok := w.Jid(c); w.Open(c) || j != "" || ok || w.Feed(c, nil) != api.ErrNone || w.Cut(c) != api.ErrNone {
		w.Errorf("connection %d is open", c)
	}
}

func (w world) isBound(c int, address string) {
	w.Helper()
	if j, ok := w.Jid(c); !w.Open(c) || j != address || !ok {
		w.Errorf("connection %d: %q, %v, want %q", c, j, ok, address)
	}
}

func (w world) cut(c int) {
	w.Helper()
	if errno := w.Cut(c); errno != api.OK {
		w.Errorf("Cut(%d): error %d", c, errno)
	}
	w.isClosed(c)
}

func (w world) tick() {
	w.Helper()
	if errno := w.Tick(); errno != api.OK {
		w.Errorf("Tick: error %d", errno)
	}
}

// stores asks what waits for somebody.
func (w world) stores(name string, want ...string) {
	w.Helper()
	if got := w.Stored(name); !slices.Equal(got, want) {
		w.Errorf("for %s there is stored\n%q, want\n%q", name, got, want)
	}
}

const greeting = "<stream to='d'>"

func welcome(id string) string { return "<stream from='d' id='" + id + "'>" }

func plain(name, secret string) string {
	return base64.StdEncoding.EncodeToString([]byte("\x00" + name + "\x00" + secret))
}

func authOf(name string) string {
	for _, u := range people() {
		if u.Name == name {
			return "<auth>" + plain(name, u.Secret) + "</auth>"
		}
	}
	return "<auth/>"
}

// known opens a connection that is somebody's, and takes away what it is sent.
func (w world) known(name string) int {
	w.Helper()
	c := w.connect()
	w.Feed(c, []byte(greeting+authOf(name)))
	if got := string(w.Out(c)); !strings.HasSuffix(got, "<success/>") {
		w.Fatalf("%s is not let in: %q", name, got)
	}
	return c
}

// bound opens a connection that has an address, and feeds it more.
func (w world) bound(name, resource string, more ...string) int {
	w.Helper()
	c := w.known(name)
	w.says(c, "<bind>"+resource+"</bind>", "<bound>"+name+"@d/"+resource+"</bound>")
	w.isBound(c, name+"@d/"+resource)
	for _, s := range more {
		w.Feed(c, []byte(s))
	}
	w.Out(c)
	return c
}

func set(id, inside string) string {
	return "<iq type='set' id='" + id + "'><pubsub>" + inside + "</pubsub></iq>"
}

func get(id, inside string) string {
	return "<iq type='get' id='" + id + "'><pubsub>" + inside + "</pubsub></iq>"
}

func result(id string) string { return "<iq type='result' id='" + id + "'/>" }

func refused(id, kind, name string) string {
	return "<iq type='error' id='" + id + "'><error type='" + kind + "'><" + name + "/></error></iq>"
}

func event(name, inside string) string {
	return "<message from='pubsub.d' to='" + name + "@d'><event>" + inside + "</event></message>"
}

func create(node string) string    { return set("c", "<create node='"+node+"' type='leaf'/>") }
func subscribe(node string) string { return set("s", "<subscribe node='"+node+"' depth='0'/>") }

func publish(node, item, text string) string {
	inside := "<publish node='" + node + "' item='" + item + "'>" + text + "</publish>"
	return set("p", strings.ReplaceAll(inside, "></publish>", "/>"))
}

// itemOf is the event of what was published.
func itemOf(name, node, item, text string) string {
	inside := "<item node='" + node + "' id='" + item + "'>" + text + "</item>"
	return event(name, strings.ReplaceAll(inside, "></item>", "/>"))
}

// news is a world with ann, bound and with the node n, to which bob has a subscription; bob is not there.
func news(t *testing.T) (w world, ann int) {
	t.Helper()
	w = newWorld(t)
	w.cut(w.bound("bob", "first"))
	ann = w.bound("ann", "x")
	w.says(ann, create("n"), result("c"))
	bob := w.bound("bob", "first")
	w.says(bob, subscribe("n"), result("s"))
	w.cut(bob)
	return w, ann
}

// tells lets ann publish at n.
func (w world) tells(ann int, items ...string) {
	w.Helper()
	for _, i := range items {
		w.says(ann, publish("n", i, "t"), result("p"))
	}
}

// heard are the events of items at n for bob.
func heard(items ...string) []string {
	var l []string
	for _, i := range items {
		l = append(l, itemOf("bob", "n", i, "t"))
	}
	return l
}

func all(l []string) string { return strings.Join(l, "") }
