package gateway

import (
	"fmt"
	"math/rand"
	"regexp"
	"slices"
	"strconv"
	"strings"
	"testing"

	"heliograph/api"
	"heliograph/node"
	"heliograph/service"
)

// dice say things to a server, mostly such as bring it on; lazy ones seldom acknowledge.
type dice struct {
	*rand.Rand
	lazy bool
}

func newDice(seed int) dice {
	return dice{rand.New(rand.NewSource(int64(seed))), seed%3 == 0}
}

func (d dice) one(l ...string) string { return l[d.Intn(len(l))] }

func (d dice) rare() bool { return d.Intn(40) == 0 }

func (d dice) request() string {
	n := d.one("n", "n", "m", "o")
	switch d.Intn(20) {
	case 0, 1:
		return set("1", "<create node='"+n+"' type='"+d.one("leaf", "collection")+"'/>")
	case 2, 3, 4, 5:
		return set("2", "<subscribe node='"+n+"' depth='"+d.one("0", "1")+"'/>")
	case 6:
		return set("3", "<associate node='n' parent='"+n+"'/>")
	case 7:
		return set("4", "<configure node='"+n+"' access='"+d.one("open", "open", "authorize", "whitelist")+"' max='"+d.one("0", "1", "4")+"'/>")
	case 8:
		return set("5", "<affiliate node='"+n+"' jid='"+d.one("ann", "bob", "cy")+"@d' role='"+d.one("outcast", "none", "member", "publisher", "owner")+"'/>")
	case 9:
		return set("6", "<"+d.one("purge", "unsubscribe")+" node='"+n+"'/>")
	case 10:
		return get("7", "<"+d.one("items", "nodes")+" node='"+n+"'/>")
	case 11:
		return "<iq type='" + d.one("get", "set", "result", "error") + "' to='p.d' id='8'>" + d.one("", "<x/>", "<pubsub><nodes node=''/></pubsub>") + "</iq>"
	case 12:
		return set("9", "<retract node='"+n+"' item='"+d.one("a", "b")+"'/>")
	}
	return publish(n, d.one("a", "b", "c"), d.one("", "t", "t", strings.Repeat("x&lt;", d.Intn(30))))
}

func (d dice) wrong() string {
	return d.one("<x/>", "<!x>", "</x>", "</stream>", "<r/>", "<a/>", "<a h='99'/>", "<message>"+kids(31)+"</message>", "<message>"+kids(32)+"</message>", "<auth/>", authOf("cy"), "<bind>q</bind>", "<resume previd='t0' h='0'/>", "<message type='x'/>", "x &amp; y", "<a h='01'/>", "<resume previd='t0' h='00'/>")
}

// element is something to feed a connection that has come so far.
func (d dice) element(m *model, c *modelConn) string {
	if d.rare() {
		if c.phase == "fresh" {
			return d.one("<x/>", "<!x>", "</x>", "</stream>", "<stream>", " ")
		}
		return d.wrong()
	}
	switch c.phase {
	case "fresh":
		return greeting
	case "greeted":
		if d.Intn(8) == 0 {
			return d.one("<auth/>", "<auth>"+plain("ann", "pb")+"</auth>", "<auth>x<y/></auth>")
		}
		return authOf(d.one("ann", "bob", "bob", "cy"))
	case "known":
		if len(m.ghosts) == 0 || d.Intn(3) == 0 {
			return "<bind>" + d.one("x", "y", "z", "u", "v", "w") + "</bind>"
		}
		g := m.ghosts[d.Intn(len(m.ghosts))]
		return resume(g.token, max(0, g.acked+d.Intn(len(g.queue)+2)-d.Intn(2)))
	}
	switch d.Intn(12) {
	case 0, 1:
		return d.one("<presence/>", "<presence/>", "<presence/>", "<presence type='unavailable'/>", "<presence type='error'/>", " ")
	case 2:
		return d.one("<message/>", "<message to='a@b' type='chat'>x</message>", "<message type='error'/>")
	case 3:
		if c.token == "" || d.Intn(6) == 0 {
			return "<enable/>"
		}
		return "<r/>"
	case 4, 5:
		if c.token != "" && (!d.lazy || d.Intn(9) == 0) {
			return acked(c.acked + d.Intn(len(c.queue)+1))
		}
	}
	return d.request()
}

// both are the server and the model, which must stay the same.
type both struct {
	world
	m *model
	d dice
}

// fed feeds the server in pieces, cut at random: P15.7.
func (b both) fed(n int, s string) {
	for s != "" && b.Open(n) {
		k := 1 + b.d.Intn(len(s))
		if errno := b.Feed(n, []byte(s[:k])); errno != api.OK {
			b.Errorf("Feed: error %d", errno)
		}
		s = s[k:]
	}
}

// begin lets a node be there, at which there is something to be told.
func (b both) begin() {
	for n, l := range [][]string{{authOf("ann"), "<bind>x</bind>", create("n"), "<presence/>"}, {authOf("bob"), "<bind>y</bind>", subscribe("n"), "<enable/>", "<presence/>"}, {authOf("cy"), "<bind>z</bind>", subscribe("n")}} {
		b.Connect()
		b.m.connect()
		for _, s := range append([]string{greeting}, l...) {
			b.fed(n, s)
			b.m.take(n, []string{s})
		}
	}
}

func (b both) step() string {
	open := b.m.open()
	if len(open) < b.d.Intn(7) || b.d.Intn(100) == 0 {
		got, errno := b.Connect()
		if want, e := b.m.connect(); got != want || errno != e {
			b.Errorf("Connect: %d, error %d; want %d, error %d", got, errno, want, e)
		}
		return "connect"
	}
	if len(open) == 0 {
		return ""
	}
	n := open[b.d.Intn(len(open))]
	switch k := b.d.Intn(300); {
	case k < 12:
		b.cut(n)
		return "cut " + strconv.Itoa(n)
	case k < 15:
		b.tick()
		b.m.tick()
		return "tick"
	case k < 16:
		return b.crashes(n)
	}
	c := b.m.conns[n]
	one := b.d.element(b.m, c)
	b.fed(n, one)
	b.m.take(n, []string{one})
	return "feed " + strconv.Itoa(n) + " " + one
}

func (b both) cut(n int) {
	if errno := b.Cut(n); errno != api.OK {
		b.Errorf("Cut: error %d", errno)
	}
	b.m.cut(n)
}

func (b both) crashes(n int) string {
	c := b.m.conns[n]
	var l []string
	for range b.d.Intn(4) {
		l = append(l, b.d.element(b.m, c))
	}
	writes := b.d.Intn(30)
	var survive []bool
	for range b.d.Intn(30) {
		survive = append(survive, b.d.Intn(3) > 0)
	}
	if errno := b.Crash(n, []byte(strings.Join(l, "")), writes, survive); errno != api.OK {
		b.Errorf("Crash: error %d", errno)
	}
	b.m.crash(n, l, writes, survive)
	return "crash"
}

// differs tells what is not the same, or nothing.
func (b both) differs() string {
	for _, c := range b.m.conns {
		j, has := b.Jid(c.number)
		if b.Open(c.number) != (c.phase != "closed") || has != (c.phase == "bound") || has && j != c.jid {
			return fmt.Sprintf("connection %d: %v, %q, %v; want it %s, %q", c.number, b.Open(c.number), j, has, c.phase, c.jid)
		}
		if b.d.Intn(2) == 0 {
			if got := string(b.Out(c.number)); got != c.out {
				return fmt.Sprintf("connection %d is sent\n%s, want\n%s", c.number, got, c.out)
			}
			c.out = ""
		}
	}
	for _, u := range people() {
		var l []string
		for _, e := range b.m.logs[u.Name] {
			l = append(l, *e)
		}
		if got := b.Stored(u.Name); !slices.Equal(l, got) {
			return fmt.Sprintf("stored %q, want %q", got, l)
		}
	}
	if got, want := b.Nodes(), service.Nodes(b.m.pairs()); !slices.EqualFunc(got, want, node.Same) {
		return fmt.Sprintf("nodes %+v, want %+v", got, want)
	}
	return ""
}

// E1, P15.1 to P15.9: long random ways, with much room and little.
func TestLikeTheModel(t *testing.T) {
	met := map[string]int{}
	for seed := range 240 {
		d := newDice(seed)
		sectors := []int{30, 60, 200, 1000}[seed%4]
		b := both{world{t, New("d", sectors, people()...)}, newModel(sectors), d}
		if seed%5 > 0 {
			b.begin()
		}
		var steps []string
		for range 300 {
			steps = append(steps, b.step())
			if seed%8 == 7 && d.Intn(20) == 0 {
				b.Server = b.Fork()
			}
			if s := b.differs(); s != "" {
				t.Fatalf("seed %d: behind\n%s\n%s", seed, strings.Join(steps[max(0, len(steps)-40):], "\n"), s)
			}
		}
		for k, n := range b.m.met {
			met[k] += n
		}
	}
	for _, k := range []string{
		"restricted-xml", "policy-violation", "host-unknown", "not-well-formed", "not-authorized", "failure", "conflict", "item-not-found", "undefined-condition, failed", "resumed", "sent again", "acknowledged", "waits", "told",
		"unexpected-request", "undefined-condition", "unsupported-stanza-type", "resource-constraint", "no room", "condition 1", "condition 2", "condition 3", "condition 4", "condition 6", "condition 7", "condition 8", "condition 9", "condition 10",
	} {
		if met[k] < 10 {
			t.Errorf("%s came up only %d times", k, met[k])
		}
	}
}

// P15.7: the same bytes, at once, one by one, and in pieces.
func TestHoweverCut(t *testing.T) {
	d := newDice(7)
	for range 300 {
		in := greeting + authOf("ann") + "<bind>x</bind>"
		for range d.Intn(12) {
			switch {
			case d.Intn(12) == 0:
				in += d.wrong()
			case d.Intn(20) == 0:
				in += d.one("\x01", "<", "&", "'", ">", "<?", strings.Repeat("x", 513))
			default:
				in += d.one("<presence/>", "<enable/>", "<message/>", "\n", d.request(), d.request())
			}
		}
		told := func(cuts func(left int) int) string {
			w := newWorld(t)
			c := w.connect()
			for rest := in; rest != "" && w.Open(c); {
				n := cuts(len(rest))
				w.Feed(c, []byte(rest[:n]))
				w.Feed(c, nil)
				rest = rest[n:]
			}
			return fmt.Sprint(string(w.Out(c)), w.Open(c), lasting(w.Server))
		}
		want := told(func(n int) int { return n })
		for name, cuts := range map[string]func(int) int{"one by one": func(int) int { return 1 }, "in pieces": func(n int) int { return 1 + d.Intn(n) }} {
			if got := told(cuts); got != want {
				t.Fatalf("%q %s\n%s, want\n%s", in, name, got, want)
			}
		}
	}
}

// client is one that takes what it is sent, over connections that break, and counts what it handled.
type client struct {
	world
	conn    int
	token   string
	handled int
	events  []string
}

var clientStanza = regexp.MustCompile(`^(?:<(message|iq)(?: [^>]*)?(?:/>|>.*?</(?:message|iq)>)|<[^>]*>)`)

// hear takes so many of the stanzas that came in; what comes behind them is lost.
func (c *client) hear(most int) {
	s := string(c.Out(c.conn))
	for s != "" && most > 0 {
		x := clientStanza.FindStringSubmatch(s)
		if x == nil {
			c.Fatalf("%q", s)
		}
		if x[1] != "" {
			c.handled++
			most--
		}
		if strings.Contains(x[0], "<event>") {
			c.events = append(c.events, x[0])
		}
		s = s[len(x[0]):]
	}
}

// again takes its connection up again.
func (c *client) again() {
	c.Helper()
	c.Cut(c.conn)
	c.conn = c.known("bob")
	c.Feed(c.conn, []byte(resume(c.token, c.handled)))
}

// E3, E5, P15.9: a client that acknowledges what it handles is sent each event once, in order, and all of them.
func TestInOrderOnce(t *testing.T) {
	again := 0
	for seed := range 150 {
		d := newDice(seed)
		w, ann := news(t)
		bob := &client{world: w, conn: w.bound("bob", "y", "<enable/><presence/>")}
		bob.token = "t" + strconv.Itoa(bob.conn)
		var want []string
		for range 120 {
			switch d.Intn(9) {
			case 0, 1, 2:
				item := d.one("a", "b", "c")
				w.Feed(ann, []byte(publish("n", item, "t")))
				if string(w.Out(ann)) == result("p") {
					want = append(want, heard(item)[0])
				}
			case 3, 4:
				bob.hear(1000)
				w.Feed(bob.conn, []byte(acked(bob.handled)))
			case 5:
				bob.hear(1000)
				w.Feed(bob.conn, []byte("<message/>"))
			case 6:
				bob.hear(d.Intn(4))
				bob.again()
				again++
			case 7:
				if d.Intn(8) == 0 {
					w.tick()
					bob.again()
				}
			case 8:
				// Another connection, behind the first one, is told nothing while that is there.
				if o := w.bound("bob", "o", "<presence/>"); len(w.Out(o)) > 0 {
					t.Error("the other one is told")
				} else {
					w.cut(o)
				}
			}
			if !w.Open(bob.conn) {
				break
			}
		}
		for range 9 {
			bob.hear(1000)
			w.Feed(bob.conn, []byte(acked(bob.handled)))
		}
		if w.Open(bob.conn) && (!slices.Equal(bob.events, want) || len(w.Stored("bob")) != 0) {
			t.Fatalf("seed %d: told\n%q, want\n%q", seed, bob.events, want)
		}
	}
	if again < 500 {
		t.Errorf("only %d times again", again)
	}
}

// E2, P15.10: what is new in a log is of a node that its user may read, and has a subscription of, or of a collection above.
func TestToldMayRead(t *testing.T) {
	told, item := 0, regexp.MustCompile(`<(?:item|retract|purge) node='([a-z]+)'`)
	for seed := range 60 {
		d := newDice(seed)
		w := world{t, New("d", api.MaxSectors, people()...)}
		var conns []int
		for _, u := range people() {
			conns = append(conns, w.bound(u.Name, "x"))
		}
		for range 120 {
			before := map[string]int{}
			for _, u := range people() {
				before[u.Name] = len(w.Stored(u.Name))
			}
			w.Feed(conns[d.Intn(3)], []byte(d.request()))
			nodes := w.Nodes()
			for _, u := range people() {
				for _, s := range w.Stored(u.Name)[before[u.Name]:] {
					told++
					name := item.FindStringSubmatch(s)[1]
					if !mayHear(nodes, name, u.Name+"@d") {
						t.Fatalf("%s is told %s, of %+v", u.Name, s, nodes)
					}
				}
			}
		}
	}
	if told < 500 {
		t.Errorf("only %d are told", told)
	}
}

func mayHear(nodes []api.Node, name, who string) bool {
	find := func(name string) (api.Node, bool) {
		for _, n := range nodes {
			if n.Name == name {
				return n, true
			}
		}
		return api.Node{}, false
	}
	n, ok := find(name)
	if !ok || !node.Reads(n, who) {
		return false
	}
	for ; ok; n, ok = find(n.Parent) {
		if s, has := node.Sub(n, who); has && !s.Pending {
			return true
		}
	}
	return false
}
