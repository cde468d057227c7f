package gateway

import (
	"slices"
	"strconv"
	"strings"
	"testing"

	"heliograph/api"
)

// P15.2: the first Begin.
func TestGreeting(t *testing.T) {
	for _, s := range []string{greeting, "<?xml version='1.0'?>\n" + greeting, " \n" + greeting, "<stream a='1' to=\"d\" from='x'>", "<stream\tto = 'd' >"} {
		w := newWorld(t)
		w.connect()
		w.says(w.connect(), s, welcome("1"))
		if !w.Open(1) {
			t.Errorf("%q closes", s)
		}
		if _, ok := w.Jid(1); ok {
			t.Error("it has an address")
		}
	}
	for _, s := range []string{"<stream>", "<stream to=''>", "<stream to='e'>", "<stream to='D'>", "<stream to='d '>", "<stream from='d'>", "<streams to='d'>", "<Stream to='d'>", "<a/>", "<auth to='d'>", "<iq to='d' type='get' id='1'/>", "<stream to='a@d'>"} {
		w := newWorld(t)
		w.fails(w.connect(), s, "<stream>", "host-unknown")
	}
	w := newWorld(t)
	w.says(w.connect(), "<stream to='d'", "")
	w.cut(0)
	w.hears(0, "")
}

// P15.1, P15.2: the domain is the server's own.
func TestDomain(t *testing.T) {
	w := world{t, New("host.example", 200, people()...)}
	w.fails(w.connect(), greeting, "<stream>", "host-unknown")
	c := w.connect()
	w.says(c, "<stream to='host.example'>"+authOf("ann")+"<bind>x</bind>", "<stream from='host.example' id='1'><success/><bound>ann@host.example/x</bound>")
	w.says(c, create("n")+subscribe("n")+"<presence/>"+publish("n", "i", ""), result("c")+result("s")+result("p")+"<message from='pubsub.host.example' to='ann@host.example'><event><item node='n' id='i'/></event></message>")
}

// P15.2: the stream's End.
func TestStreamEnds(t *testing.T) {
	w := newWorld(t)
	w.says(w.connect(), "<stream to='d'/>", welcome("0")+"</stream>")
	w.isClosed(0)
	for _, c := range []int{w.known("ann"), w.bound("ann", "x"), w.bound("ann", "y", "<enable/><presence/>")} {
		w.says(c, "</stream>", "</stream>")
		w.isClosed(c)
	}
	// Behind it nothing is taken.
	c := w.bound("ann", "x")
	w.says(c, "</stream>"+create("n")+"<!x>", "</stream>")
	if len(w.Nodes()) != 0 {
		t.Error(w.Nodes())
	}
}

// P15.2: text right below the stream is passed over, in each phase; within an element it is not.
func TestTextBelow(t *testing.T) {
	w := newWorld(t)
	c := w.connect()
	w.says(c, greeting+" x "+authOf("ann")+"&amp;\n<bind>x</bind>y<message/>z", welcome("0")+"<success/><bound>ann@d/x</bound><message type='error'><error type='cancel'><service-unavailable/></error></message>")
	w.says(c, strings.Repeat(" ", api.MaxText-1)+"<r", "")
	w.fails(c, ">x</r>", "", "unsupported-stanza-type")
}

func kids(n int) string { return strings.Repeat("<k/>", n) }

// P15.2: an element of MaxTokens tokens may be, one of more is refused with its first token too many.
func TestTokens(t *testing.T) {
	answer := "<message type='error'><error type='cancel'><service-unavailable/></error></message>"
	w := newWorld(t)
	c := w.bound("ann", "x")
	w.says(c, "<message>"+kids(31)+"</message>", answer)
	w.says(c, "<message>x"+kids(30)+"y</message>", answer)
	w.says(c, "<message>"+kids(31), "")
	w.says(c, "</message><message>", answer)
	w.says(c, kids(31)+"<k>", "")
	w.says(c, "x", "")
	w.fails(c, "<", "", "policy-violation")
	w.fails(w.bound("ann", "x"), "<message>"+kids(31)+"x</message><message/>", "", "policy-violation")
	w.fails(w.bound("ann", "x"), "<message/><x>"+kids(31)+"<k/>", answer, "policy-violation")
	w.fails(w.bound("ann", "x"), "<x>"+kids(32)+"<!x>", "", "policy-violation")
	// In each phase, and whatever it is.
	w.fails(w.known("ann"), "<bind>"+kids(32), "", "policy-violation")
	c = w.connect()
	w.fails(c, greeting+"<auth>"+kids(32), welcome(strconv.Itoa(c)), "policy-violation")
	// Elements are counted one by one.
	c = w.bound("ann", "x")
	w.says(c, strings.Repeat("<message>"+kids(20)+"</message>", 9), strings.Repeat(answer, 9))
}

// P15.2: the errors of the parser, in each phase.
func TestParserErrors(t *testing.T) {
	for name, wrongs := range map[string][]string{
		"not-well-formed":  {"<a></b>", "<9>", "x&y<", "\x01<", "<a b='<'/>", "<a\xff>", "</streams>"},
		"policy-violation": {strings.Repeat("x", api.MaxText+1), "<a" + strings.Repeat(" ", 2047), "<a a='' b='' c='' d='' e='' f='' g='' h='' i=''/>", strings.Repeat("<a>", api.MaxDepth)},
		"restricted-xml":   {"<!-- -->", "<?x?>", "<![CDATA[x]]>", "<?xml version='1.0'?>"},
	} {
		for _, s := range wrongs {
			w := newWorld(t)
			w.fails(w.bound("ann", "x", "<enable/>"), s, "", name)
			w.fails(w.known("ann"), s, "", name)
			w.fails(w.connect(), greeting+s, welcome("2"), name)
		}
	}
	for name, wrongs := range map[string][]string{
		"not-well-formed":  {"x<", "</a>", "<9>"},
		"policy-violation": {strings.Repeat(" ", api.MaxText+1), "<" + strings.Repeat("a", 2048)},
		"restricted-xml":   {"<!x>", " <?xml ?>"},
	} {
		for _, s := range wrongs {
			w := newWorld(t)
			w.fails(w.connect(), s, "<stream>", name)
		}
	}
}

// P15.2: what is told ahead of the parser's error is taken; what a closed one is fed is not.
func TestErrorBehindTokens(t *testing.T) {
	w := newWorld(t)
	c := w.bound("ann", "x")
	w.fails(c, create("n")+"<!x>"+create("m"), result("c"), "restricted-xml")
	w.fails(w.bound("ann", "x"), "<x/>"+create("m")+"<!x>", "", "unsupported-stanza-type")
	w.fails(w.connect(), "<x/>\x01<", "<stream>", "host-unknown")
	if l := w.Nodes(); len(l) != 1 || l[0].Name != "n" {
		t.Error(l)
	}
}

// P15.3: who is let in.
func TestAuth(t *testing.T) {
	right := plain("ann", "pa")
	if right != "AGFubgBwYQ==" {
		t.Fatal(right)
	}
	no := "<failure><not-authorized/></failure>"
	w := newWorld(t)
	c := w.connect()
	w.says(c, greeting, welcome("0"))
	for _, s := range []string{
		"<auth/>", "<auth></auth>", "<auth> " + right + "</auth>", "<auth>" + right + "\n</auth>", "<auth>" + right[:11] + "</auth>", "<auth>AGFubgBwYR==</auth>", "<auth>ann</auth>", "<auth>====</auth>", "<auth>&amp;</auth>",
		"<auth>" + plain("ann", "pb") + "</auth>", "<auth>" + plain("ann", "") + "</auth>", "<auth>" + plain("", "pa") + "</auth>", "<auth>" + plain("", "") + "</auth>", "<auth>" + plain("Ann", "pa") + "</auth>", "<auth>" + plain("ann", "PA") + "</auth>",
		"<auth>" + plain("ann", "pa\x00") + "</auth>", "<auth>" + plain("ann@d", "pa") + "</auth>", "<auth>YW5uAHBh</auth>", "<auth>AGFubnBh</auth>", "<auth>" + plain("dan", "pa") + "</auth>",
		"<auth>" + right + "<x/></auth>", "<auth><x/>" + right + "</auth>", "<auth><x>" + right + "</x></auth>", "<auth a='" + right + "'/>", "<auth><x/></auth>",
	} {
		w.says(c, s, no)
	}
	w.says(c, "<auth mechanism='PLAIN'>"+right+"</auth>", "<success/>")
	for _, u := range people() {
		w.says(w.connect(), greeting+authOf(u.Name)+"<bind>x</bind>", welcome(strconv.Itoa(1+slices.Index(people(), u)))+"<success/><bound>"+u.Name+"@d/x</bound>")
	}
}

// P15.3: all else, of one that is greeted.
func TestGreetedElse(t *testing.T) {
	for _, s := range []string{"<bind>x</bind>", "<resume previd='t0' h='0'/>", "<iq type='get' id='1'/>", "<presence/>", "<message/>", "<enable/>", "<r/>", "<a h='0'/>", "<Auth/>", "<x/>", "<stream to='d'/>", "<success/>"} {
		w := newWorld(t)
		w.fails(w.connect(), greeting+s, welcome("0"), "not-authorized")
	}
}

// P15.3: addresses.
func TestBind(t *testing.T) {
	for _, r := range []string{"x", "X", "0", "-_.", "a.B-c_9", strings.Repeat("r", 16)} {
		w := newWorld(t)
		c := w.bound("ann", r)
		w.fails(c, "<bind>y</bind>", "", "unsupported-stanza-type")
	}
	w := newWorld(t)
	c := w.known("ann")
	if j, ok := w.Jid(c); j != "" || ok {
		t.Error(j, ok)
	}
	w.says(c, "<bind a='1'>x</bind>", "<bound>ann@d/x</bound>")
	for _, s := range []string{"", " ", " x", "x ", "x\n", "a/b", "a@b", "\u00e9", "x<y/>", "<y/>", "<y/>x", "<y>x</y>", "&amp;", "x:y", strings.Repeat("r", 17), strings.Repeat("r", 64)} {
		w.fails(w.known("ann"), "<bind>"+s+"</bind>", "", "not-authorized")
	}
	long := world{t, New(strings.Repeat("d", 20), 200, User{strings.Repeat("a", 24), "s"})}
	address := strings.Repeat("a", 24) + "@" + strings.Repeat("d", 20) + "/" + strings.Repeat("r", 16)
	long.says(long.connect(), "<stream to='"+strings.Repeat("d", 20)+"'><auth>"+plain(strings.Repeat("a", 24), "s")+"</auth><bind>"+strings.Repeat("r", 16)+"</bind>", "<stream from='"+strings.Repeat("d", 20)+"' id='0'><success/><bound>"+address+"</bound>")
	long.isBound(0, address)
}

// P15.3: all else, of one that is known.
func TestKnownElse(t *testing.T) {
	for _, s := range []string{authOf("ann"), "<auth/>", "<iq type='get' id='1'/>", "<presence/>", "<message/>", "<enable/>", "<r/>", "<a h='0'/>", "<Bind>x</Bind>", "<x/>", "<stream to='d'/>"} {
		w := newWorld(t)
		w.fails(w.known("ann"), s, "", "not-authorized")
	}
}

// P15.3: who binds an address has it alone.
func TestConflict(t *testing.T) {
	w := newWorld(t)
	a := w.bound("ann", "x")
	b := w.bound("ann", "X")
	c := w.bound("bob", "x")
	known := w.known("ann")
	d := w.bound("ann", "x")
	w.hears(a, "<error><conflict/></error></stream>")
	w.isClosed(a)
	for _, n := range []int{b, c, known, d} {
		w.hears(n, "")
		if !w.Open(n) {
			t.Errorf("%d is closed", n)
		}
	}
	w.isBound(d, "ann@d/x")
	w.fails(known, "<bind>x!</bind>", "", "not-authorized")
	w.isBound(d, "ann@d/x")
}

// P15.3: a ghost of the address is gone, others are not.
func TestBindEndsGhost(t *testing.T) {
	w := newWorld(t)
	w.cut(w.bound("bob", "y", "<enable/>")) // t0
	w.cut(w.bound("bob", "z", "<enable/>")) // t1
	w.cut(w.bound("ann", "y", "<enable/>")) // t2
	w.bound("bob", "y")
	w.says(w.known("bob"), "<resume previd='t0' h='0'/>", "<failed><item-not-found/></failed>")
	w.says(w.known("bob"), "<resume previd='t1' h='0'/>", "<resumed previd='t1' h='0'/>")
	w.says(w.known("ann"), "<resume previd='t2' h='0'/>", "<resumed previd='t2' h='0'/>")
}

// P15.3: what a resume must have; what it names need not be.
func TestResumeForm(t *testing.T) {
	w := newWorld(t)
	w.cut(w.bound("bob", "y", "<enable/>"))
	for _, s := range []string{
		"<resume/>", "<resume previd='t0'/>", "<resume h='0'/>", "<resume previd='t0' h=''/>", "<resume previd='t0' h='x'/>", "<resume previd='t0' h='00'/>", "<resume previd='t0' h='+0'/>", "<resume previd='t0' h='-0'/>", "<resume previd='t0' h='-1'/>",
		"<resume previd='t0' h=' 0'/>", "<resume previd='t0' h='0 '/>", "<resume previd='t0' h='0x0'/>", "<resume previd='t0' h='4294967296'/>", "<resume previd='t0' h='99999999999999999999'/>", "<resume previd='t0' h='1_0'/>", "<resume previd='t0' h='\u0660'/>", "<resumes previd='t0' h='0'/>",
	} {
		w.fails(w.known("bob"), s, "", "not-authorized")
	}
	c := w.known("bob")
	none := "<failed><item-not-found/></failed>"
	for _, s := range []string{"<resume previd='' h='0'/>", "<resume previd='t1' h='0'/>", "<resume previd='T0' h='0'/>", "<resume previd='t00' h='4294967295'/>", "<resume previd='0' h='0'/>"} {
		w.says(c, s, none)
	}
	w.says(w.known("ann"), "<resume previd='t0' h='0'/>", none)
	// A number of stanzas that it was not sent is refused, and the ghost stays.
	for _, h := range []string{"1", "2", "17", "4294967295"} {
		w.says(c, "<resume previd='t0' h='"+h+"'/>", "<failed><undefined-condition/></failed>")
	}
	w.says(c, "<resume a='b' h='0' previd='t0'>x<y/></resume>", "<resumed previd='t0' h='0'/>")
	w.isBound(c, "bob@d/y")
	w.says(w.known("bob"), "<resume previd='t0' h='0'/>", none)
	w.says(c, "<enable/>", "<failed><unexpected-request/></failed>")
	w.fails(c, "<resume previd='t0' h='0'/>", "", "unsupported-stanza-type")
}
