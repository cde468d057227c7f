package gateway

import (
	"fmt"
	"strconv"
	"strings"
	"testing"

	"heliograph/api"
	"heliograph/node"
)

const unserved = "<message type='error'><error type='cancel'><service-unavailable/></error></message>"

// P15.4: enable, and what is asked and told of numbers.
func TestEnable(t *testing.T) {
	w := newWorld(t)
	w.connect()
	c := w.bound("bob", "y")
	w.says(c, "<message/><presence/>", unserved)
	w.says(c, "<enable resume='true'>x<y/></enable>", "<enabled id='t1'/>")
	w.says(c, "<enable/>", "<failed><unexpected-request/></failed>")
	// What it was sent, and what it sent, ahead of this is not counted.
	w.says(c, "<r/>", "<a h='0'/>")
	w.says(c, "<presence/><r a='b'>x<y/></r><message/><iq type='result' id='1'/><message type='error'/><presence type='error'/><r/>", "<a h='1'/>"+unserved+"<a h='5'/>")
	w.says(c, "<a h='0'/><a h='1'/><a h='1'>x</a>", "")
	w.fails(c, "<a h='2'/>", "", "undefined-condition")
}

// P15.4: what can't be told of numbers.
func TestWrongAcks(t *testing.T) {
	for _, s := range []string{"<r/>", "<a h='0'/>", "<a/>"} {
		w := newWorld(t)
		w.fails(w.bound("bob", "y"), s, "", "unsupported-stanza-type")
	}
	for _, s := range []string{"<a/>", "<a h=''/>", "<a h='x'/>", "<a h='00'/>", "<a h='01'/>", "<a h='-1'/>", "<a h='+1'/>", "<a h=' 1'/>", "<a h='1 '/>", "<a h='4294967296'/>", "<a H='0'/>", "<R/>", "<A h='0'/>"} {
		w := newWorld(t)
		w.fails(w.bound("bob", "y", "<enable/>"), "<message/>"+s, unserved, "unsupported-stanza-type")
	}
	for _, h := range []string{"2", "4294967295", "2147483648"} {
		w := newWorld(t)
		w.fails(w.bound("bob", "y", "<enable/>"), "<message/><a h='"+h+"'/>", unserved, "undefined-condition")
	}
	w := newWorld(t)
	w.fails(w.bound("bob", "y", "<enable/>"), "<message/><message/><a h='2'/><a h='1'/>", unserved+unserved, "undefined-condition")
}

// P15.4: what is no stanza.
func TestNoStanzas(t *testing.T) {
	for _, s := range []string{
		"<x/>", "<auth/>", authOf("bob"), "<bind>z</bind>", "<resume previd='t0' h='0'/>", "<stream to='d'/>", "<iq/>", "<iq type='get'/>", "<iq id='1'/>", "<iq type='got' id='1'/>", "<iq type='get' id=''/>", "<message type='x'/>", "<presence type='available'/>",
		"<message x='1'/>", "<message to='a b'/>", "<message from='@'/>", "<Message/>", "<message id='" + strings.Repeat("i", api.MaxText+1) + "'/>", "<enabled/>", "<error/>",
	} {
		w := newWorld(t)
		w.fails(w.bound("bob", "y", "<enable/>"), s+"<r/>", "", "unsupported-stanza-type")
	}
}

// P15.4: messages.
func TestMessages(t *testing.T) {
	w := newWorld(t)
	c := w.bound("bob", "y")
	for in, want := range map[string]string{
		"<message/>": unserved, "<message type='error'/>": "", "<message type='error' to='a@b' id='1'><body/></message>": "",
		"<message type='chat' to='a@b/c' id='&lt;'><body>x</body></message>": "<message type='error' from='a@b/c' id='&lt;'><error type='cancel'><service-unavailable/></error></message>",
		"<message id='1' from='ann@d' to='p.d' type='headline'/>":            "<message type='error' from='p.d' to='ann@d' id='1'><error type='cancel'><service-unavailable/></error></message>",
		"<presence type='error'/>":                                           "", "<presence type='unavailable' to='a@b'><x/></presence>": "", "<presence id='1'>x</presence>": "",
		"<iq type='result' id='1'/>": "", "<iq type='error' id='1'><x/></iq>": "", "<iq type='result' id='1'><pubsub><create node='n' type='leaf'/></pubsub></iq>": "",
	} {
		w.says(c, in, want)
	}
	if len(w.Nodes()) != 0 {
		t.Error(w.Nodes())
	}
}

// P15.4: who is there is told; who is not, or has said no, is not.
func TestPresence(t *testing.T) {
	w, ann := news(t)
	w.tells(ann, "a")
	bob := w.bound("bob", "y")
	w.tells(ann, "b")
	w.hears(bob, "")
	w.says(bob, "<presence type='unavailable'/><presence type='error'/><message/>", unserved)
	w.stores("bob", heard("a", "b")...)
	w.says(bob, "<presence/>", all(heard("a", "b")))
	w.stores("bob")
	w.says(bob, "<presence/>", "")
	w.tells(ann, "c")
	w.hears(bob, all(heard("c")))
	w.says(bob, "<presence type='error'/>", "")
	w.tells(ann, "d")
	w.hears(bob, all(heard("d")))
	w.says(bob, "<presence type='unavailable'/>", "")
	w.tells(ann, "e")
	w.hears(bob, "")
	w.stores("bob", heard("e")...)
	w.says(bob, "<presence/>", all(heard("e")))
	w.stores("bob")
}

// P15.5: what is asked wrongly.
func TestWrongRequests(t *testing.T) {
	bad := "<iq type='error' id='1'><error type='modify'><bad-request/></error></iq>"
	w := newWorld(t)
	c := w.bound("ann", "x")
	for _, inside := range []string{
		"", "x", "<x/>", "<pubsub/>", "<pubsub><x/></pubsub>", "<pubsub><create/></pubsub>", "<pubsub><create node='N' type='leaf'/></pubsub>", "<pubsub><create type='leaf' node='n'/></pubsub>", "<pubsub><create node='n' type='leaf'/></pubsub><x/>",
		"<pubsub> <create node='n' type='leaf'/></pubsub>", "<pubsub><create node='n'/></pubsub>", "<pubsub><subscribe node='n' depth='00'/></pubsub>", "<pubsub><affiliate node='n' jid='a@d/x' role='owner'/></pubsub>",
	} {
		w.says(c, "<iq type='get' id='1'>"+inside+"</iq>", bad)
		w.says(c, "<iq type='set' id='1'>"+inside+"</iq>", bad)
	}
	w.says(c, create("n"), result("c"))
	for _, inside := range []string{"<items node='n'/>", "<nodes node=''/>", "<nodes node='n'/>"} {
		w.says(c, set("1", inside), bad)
	}
	for _, inside := range []string{"<create node='m' type='leaf'/>", "<remove node='n'/>", "<purge node='n'/>", "<subscribe node='n' depth='0'/>", "<publish node='n' item='i'/>"} {
		w.says(c, get("1", inside), bad)
	}
	if l := w.Nodes(); len(l) != 1 || len(l[0].Items) != 0 || len(l[0].Subs) != 0 {
		t.Error(l)
	}
}

// P15.5: requests, for the bare address of the connection, whatever the stanza says.
func TestRequests(t *testing.T) {
	w := newWorld(t)
	ann, bob := w.bound("ann", "x"), w.bound("bob", "y")
	w.says(ann, create("n")+create("n"), result("c")+refused("c", "cancel", "conflict"))
	w.says(ann, publish("n", "i", "a&lt;b")+publish("n", "j", ""), result("p")+result("p"))
	w.says(bob, publish("n", "k", ""), refused("p", "auth", "forbidden"))
	w.says(bob, "<iq type='set' id='1' from='ann@d' to='pubsub.d'><pubsub><purge node='n'/></pubsub></iq>", "<iq type='error' from='pubsub.d' to='ann@d' id='1'><error type='auth'><forbidden/></error></iq>")
	w.says(bob, "<iq to='p.d' type='get' id='&amp;' from='z@z/z'><pubsub><items node='n'/></pubsub></iq>", "<iq type='result' from='p.d' to='z@z/z' id='&amp;'><items node='n'><item id='i' publisher='ann@d'>a&lt;b</item><item id='j' publisher='ann@d'/></items></iq>")
	w.says(bob, get("1", "<nodes node=''/>"), "<iq type='result' id='1'><nodes node=''><node name='n'/></nodes></iq>")
	w.says(bob, get("1", "<items node='m'/>"), refused("1", "cancel", "item-not-found"))
	w.says(bob, set("1", "<subscribe node='n' depth='3'/>"), result("1"))
	n := w.Nodes()[0]
	if len(n.Affs) != 1 || n.Affs[0] != (api.Aff{Jid: "ann@d", Role: api.Owner}) || len(n.Subs) != 1 || n.Subs[0] != (api.Sub{Jid: "bob@d", Depth: 3}) || n.Items[0] != (api.Item{Id: "i", Publisher: "ann@d", Text: "a<b"}) {
		t.Errorf("%+v", n)
	}
}

// P15.5: the notes' texts, of each kind; what they say is escaped once.
func TestNotes(t *testing.T) {
	w := newWorld(t)
	ann := w.bound("ann", "x", create("n"), subscribe("n"), "<presence/>")
	w.says(ann, publish("n", "i", "&lt;&amp;'\u00e9"), result("p")+event("ann", "<item node='n' id='i'>&lt;&amp;&apos;\u00e9</item>"))
	w.says(ann, publish("n", "j", ""), result("p")+event("ann", "<item node='n' id='j'/>"))
	w.says(ann, set("1", "<retract node='n' item='i'/>"), result("1")+event("ann", "<retract node='n' id='i'/>"))
	w.says(ann, set("1", "<retract node='n' item='i'/>"), refused("1", "cancel", "item-not-found"))
	w.says(ann, set("1", "<purge node='n'/>"), result("1")+event("ann", "<purge node='n'/>"))
	w.says(ann, set("1", "<unsubscribe node='n'/>")+publish("n", "k", ""), result("1")+result("p"))
	w.stores("ann")
}

// P15.5: each user that is told has its own log; of one's own note the answer comes first.
func TestManyAreTold(t *testing.T) {
	w := newWorld(t)
	ann := w.bound("ann", "x", create("n"), subscribe("n"), "<presence/>")
	bob := w.bound("bob", "x", subscribe("n"), "<presence/>")
	w.cut(w.bound("cy", "x", subscribe("n"), "<presence/>"))
	w.says(ann, publish("n", "i", "t"), result("p")+itemOf("ann", "n", "i", "t"))
	w.hears(bob, itemOf("bob", "n", "i", "t"))
	w.stores("ann")
	w.stores("bob")
	w.stores("cy", itemOf("cy", "n", "i", "t"))
}

// P15.10: who may not read any more is told no more; what was told ahead of that stays told.
func TestTheUntold(t *testing.T) {
	w, ann := news(t)
	w.tells(ann, "a")
	w.says(ann, set("1", "<configure node='n' access='whitelist' max='4'/>"), result("1"))
	w.tells(ann, "b")
	w.stores("bob", heard("a")...)
	w.says(ann, set("1", "<affiliate node='n' jid='bob@d' role='member'/>"), result("1"))
	w.tells(ann, "c")
	w.stores("bob", heard("a", "c")...)
	w.says(ann, set("1", "<affiliate node='n' jid='bob@d' role='outcast'/>"), result("1"))
	w.tells(ann, "d")
	w.stores("bob", heard("a", "c")...)
	// One who waits to be let in is not told.
	w.says(ann, set("1", "<configure node='n' access='authorize' max='4'/>"), result("1"))
	cy := w.bound("cy", "x", "<presence/>")
	w.says(cy, subscribe("n"), result("s"))
	w.tells(ann, "e")
	w.hears(cy, "")
	w.says(ann, set("1", "<approve node='n' jid='cy@d'/>"), result("1"))
	w.tells(ann, "f")
	w.hears(cy, itemOf("cy", "n", "f", "t"))
}

// P15.5: only who is a user has a log.
func TestNotesToOthers(t *testing.T) {
	w, ann := news(t)
	n := w.Nodes()[0]
	n.Subs = nil
	for _, who := range []string{"bob@c", "bob@d", "bob@d.d", "d", "zed@d"} {
		n.Subs = append(n.Subs, api.Sub{Jid: who})
	}
	s, errno := node.Encode(n)
	if errno != api.OK || w.pairs.Put("node/n", s) != api.OK {
		t.Fatal(errno)
	}
	w.tells(ann, "i")
	w.stores("bob", heard("i")...)
	if l := w.pairs.Scan("log/"); len(l) != 1 {
		t.Error(l)
	}
}

// P15.5: without room nothing is done: neither a pair too many, nor bytes too many.
func TestNoRoom(t *testing.T) {
	for sectors, least := range map[int]int{200: 30, api.MaxSectors: 100} {
		w := world{t, New("d", sectors, people()...)}
		ann := w.bound("ann", "x", create("n"))
		w.cut(w.bound("bob", "x", subscribe("n")))
		w.cut(w.bound("cy", "x", subscribe("n"), "<presence/>"))
		n := 0
		for ; n < 200; n++ {
			w.Feed(ann, []byte(publish("n", "i"+strconv.Itoa(n%4), strings.Repeat("x", n%3))))
			if string(w.Out(ann)) != result("p") {
				break
			}
		}
		if bob, cy := w.Stored("bob"), w.Stored("cy"); len(bob) != n || len(cy) != n || 2*n < least || 2*n+1 > api.MaxPairs {
			t.Errorf("%d sectors: %d are told, stored %d and %d", sectors, n, len(bob), len(cy))
		}
		before := fmt.Sprint(w.Nodes(), w.Stored("bob"), w.Stored("cy"))
		w.says(ann, publish("n", "new", "text"), refused("p", "wait", "resource-constraint"))
		if after := fmt.Sprint(w.Nodes(), w.Stored("bob"), w.Stored("cy")); after != before {
			t.Errorf("%s, then %s", before, after)
		}
		// Who takes what it is sent makes room.
		cy := w.bound("cy", "x", "<presence/>")
		w.says(ann, publish("n", "new", "text"), result("p"))
		w.hears(cy, itemOf("cy", "n", "new", "text"))
		if l := w.Stored("bob"); len(l) != n+1 || l[n] != itemOf("bob", "n", "new", "text") || len(w.Stored("cy")) != 0 {
			t.Error(l)
		}
	}
}

// P15.5: behind the number 99999999 there is none.
func TestLastEntry(t *testing.T) {
	w, ann := news(t)
	w.pairs.Put("log/bob/99999998", "old")
	w.tells(ann, "i")
	if text, ok := w.pairs.Get("log/bob/99999999"); !ok || text != heard("i")[0] {
		t.Error(text, ok)
	}
	before := fmt.Sprint(w.Nodes())
	w.says(ann, publish("n", "j", "t"), refused("p", "wait", "resource-constraint"))
	w.stores("bob", "old", heard("i")[0])
	if after := fmt.Sprint(w.Nodes()); after != before {
		t.Errorf("%s, then %s", before, after)
	}
	w.says(ann, create("m"), result("c"))
}

// The keys of a log: numbers in eight digits, from 1 on.
func TestKeys(t *testing.T) {
	w, ann := news(t)
	w.tells(ann, "i", "j")
	l := w.pairs.Scan("")
	if len(l) != 3 || l[0] != (api.Pair{Key: "log/bob/00000001", Value: heard("i")[0]}) || l[1] != (api.Pair{Key: "log/bob/00000002", Value: heard("j")[0]}) || l[2].Key != "node/n" {
		t.Error(l)
	}
	for range 9 {
		w.tells(ann, "k")
	}
	if _, ok := w.pairs.Get("log/bob/00000011"); !ok || w.Stored("bob")[10] != heard("k")[0] {
		t.Error(w.pairs.Scan(""))
	}
	// Each user's numbers are its own.
	w.bound("bob", "y", "<enable/><presence/>")
	w.bound("cy", "z", subscribe("n"))
	w.tells(ann, "l")
	if s, _ := w.pairs.Get("log/cy/00000001"); s != itemOf("cy", "n", "l", "t") {
		t.Error(w.pairs.Scan(""))
	}
}
