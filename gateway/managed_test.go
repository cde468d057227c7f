package gateway

import (
	"strconv"
	"strings"
	"testing"

	"heliograph/api"
)

func resume(token string, h int) string {
	return "<resume previd='" + token + "' h='" + strconv.Itoa(h) + "'/>"
}

func resumed(token string, h int) string {
	return "<resumed previd='" + token + "' h='" + strconv.Itoa(h) + "'/>"
}

func acked(h int) string { return "<a h='" + strconv.Itoa(h) + "'/>" }

// P15.4, P15.9: what is sent stays in the log until it is acknowledged; not so of one that is not managed.
func TestAcknowledged(t *testing.T) {
	w, ann := news(t)
	bob := w.bound("bob", "y", "<enable/><presence/>")
	w.tells(ann, "a", "b", "c")
	w.hears(bob, all(heard("a", "b", "c")))
	w.stores("bob", heard("a", "b", "c")...)
	w.says(bob, acked(0)+"<presence/>", "")
	w.stores("bob", heard("a", "b", "c")...)
	w.says(bob, acked(2), "")
	w.stores("bob", heard("c")...)
	// A stanza that is no event is acknowledged as one, and takes nothing out.
	w.says(bob, "<message/>"+acked(4), unserved)
	w.stores("bob")
	w.tells(ann, "d")
	w.says(bob, acked(4), all(heard("d")))
	w.stores("bob", heard("d")...)
	w.says(bob, "<message/>"+acked(5), unserved)
	w.stores("bob")
	w.says(bob, acked(6), "")
}

// P15.4: what it was sent ahead of enable is not counted; what it was sent last stays.
func TestEnabledLater(t *testing.T) {
	w, ann := news(t)
	bob := w.bound("bob", "y", "<presence/>")
	w.tells(ann, "a", "b")
	w.hears(bob, all(heard("a", "b")))
	w.says(bob, "<enable/><presence/>", "<enabled id='t"+strconv.Itoa(bob)+"'/>")
	w.tells(ann, "c")
	w.hears(bob, all(heard("c")))
	w.stores("bob", heard("c")...)
	w.says(bob, acked(1), "")
	w.stores("bob")
}

// P15.3, P15.9: what was not acknowledged is sent again, in order; what was never.
func TestResumed(t *testing.T) {
	for h := range 5 {
		for _, more := range []bool{false, true} {
			w, ann := news(t)
			bob := w.bound("bob", "y", "<enable/><presence/>")
			token := "t" + strconv.Itoa(bob)
			w.tells(ann, "a", "b")
			w.says(bob, "<message/><r/>", all(heard("a", "b"))+unserved+"<a h='2'/>")
			w.tells(ann, "c")
			w.cut(bob)
			sent := []string{heard("a")[0], heard("b")[0], unserved, heard("c")[0]}
			left := [][]string{heard("a", "b", "c"), heard("b", "c"), heard("c"), heard("c"), nil}[h]
			var late []string
			if more {
				w.tells(ann, "d", "e")
				late = heard("d", "e")
			}
			w.stores("bob", append(heard("a", "b", "c"), late...)...)
			c := w.known("bob")
			w.says(c, resume(token, 5), "<failed><undefined-condition/></failed>")
			w.stores("bob", append(heard("a", "b", "c"), late...)...)
			w.says(c, resume(token, h), resumed(token, 2)+all(sent[h:])+all(late))
			w.stores("bob", append(left, late...)...)
			w.isBound(c, "bob@d/y")
			w.says(c, "<presence/><r/>", "<a h='3'/>")
			w.says(c, acked(4+len(late)), "")
			w.stores("bob")
			// And once more, of the same token.
			w.cut(c)
			w.tells(ann, "f")
			d := w.known("bob")
			w.says(d, resume(token, 4+len(late)), resumed(token, 3)+all(heard("f")))
			w.says(d, acked(5+len(late)), "")
		}
	}
}

// P15.3: it is AVAILABLE as its ghost is.
func TestResumedUnavailable(t *testing.T) {
	w, ann := news(t)
	bob := w.bound("bob", "y", "<enable/><presence/>")
	token := "t" + strconv.Itoa(bob)
	w.tells(ann, "a")
	w.says(bob, "<presence type='unavailable'/>", all(heard("a")))
	w.tells(ann, "b")
	w.cut(bob)
	c := w.known("bob")
	w.says(c, resume(token, 0), resumed(token, 2)+all(heard("a")))
	w.says(c, acked(1), "")
	w.stores("bob", heard("b")...)
	w.says(c, "<presence/>", all(heard("b")))
	w.stores("bob", heard("b")...)
}

// MaxQueue may wait; then an event waits in the log, and is sent when there is room.
func TestEventsWait(t *testing.T) {
	w, ann := news(t)
	bob := w.bound("bob", "y", "<enable/><presence/>")
	w.says(bob, strings.Repeat("<message/>", api.MaxQueue-2), strings.Repeat(unserved, api.MaxQueue-2))
	w.tells(ann, "a", "b", "c", "d", "e")
	w.hears(bob, all(heard("a", "b")))
	w.stores("bob", heard("a", "b", "c", "d", "e")...)
	w.says(bob, acked(0)+"<presence/>", "")
	w.says(bob, acked(1), all(heard("c")))
	w.stores("bob", heard("a", "b", "c", "d", "e")...)
	w.says(bob, acked(api.MaxQueue), all(heard("d", "e")))
	w.stores("bob", heard("c", "d", "e")...)
	w.says(bob, acked(api.MaxQueue+3), "")
	w.stores("bob")
}

// The same of a ghost's: what waits there waits behind a resume too.
func TestEventsWaitForResume(t *testing.T) {
	w, ann := news(t)
	bob := w.bound("bob", "y", "<enable/><presence/>")
	token := "t" + strconv.Itoa(bob)
	w.says(bob, strings.Repeat("<message/>", api.MaxQueue), strings.Repeat(unserved, api.MaxQueue))
	w.tells(ann, "a", "b", "c")
	w.cut(bob)
	c := w.known("bob")
	w.says(c, resume(token, 2), resumed(token, 17)+strings.Repeat(unserved, api.MaxQueue-2)+all(heard("a", "b")))
	w.says(c, acked(3), all(heard("c")))
}

// An answer can't wait: the connection fails, but what was asked is done, and who is to be told is.
func TestAnswersDoNotWait(t *testing.T) {
	w := newWorld(t)
	ann := w.bound("ann", "x", "<enable/><presence/>", create("n"), subscribe("n"))
	other := w.bound("ann", "y", "<presence/>")
	bob := w.bound("bob", "y", "<presence/>", subscribe("n"))
	w.says(ann, strings.Repeat("<message/>", api.MaxQueue-2), strings.Repeat(unserved, api.MaxQueue-2))
	w.fails(ann, publish("n", "i", "t")+publish("n", "j", "t"), "", "resource-constraint")
	w.hears(bob, itemOf("bob", "n", "i", "t"))
	w.hears(other, itemOf("ann", "n", "i", "t"))
	w.stores("ann")
	w.says(w.known("ann"), resume("t0", 0), "<failed><item-not-found/></failed>")
	for _, s := range []string{"<message/>", get("1", "<nodes node=''/>"), get("1", "<x/>"), create("n")} {
		c := w.bound("ann", "z", "<enable/>", strings.Repeat("<message/>", api.MaxQueue))
		w.fails(c, "<presence/><r/>"+s+"<message/>", "<a h='17'/>", "resource-constraint")
	}
}

// What is no stanza is not counted, and needs no room.
func TestFullQueueHears(t *testing.T) {
	w := newWorld(t)
	c := w.bound("bob", "y", "<enable/>", strings.Repeat("<message/>", api.MaxQueue))
	w.says(c, "<r/><enable/><presence/><iq type='result' id='1'/><message type='error'/>", "<a h='16'/><failed><unexpected-request/></failed>")
	w.says(c, "<r/>"+acked(16)+"<message/>", "<a h='19'/>"+unserved)
}

// Of a user's connections that are there the one with the least number is told.
func TestLeastIsTold(t *testing.T) {
	w, ann := news(t)
	a, b, c := w.bound("bob", "a"), w.bound("bob", "b", "<presence/>"), w.bound("bob", "c", "<presence/>")
	w.tells(ann, "1")
	w.hears(b, all(heard("1")))
	w.says(a, "<presence/>", "")
	w.tells(ann, "2")
	w.hears(a, all(heard("2")))
	w.says(a, "<presence type='unavailable'/>", "")
	w.fails(b, "<x/>", "", "unsupported-stanza-type")
	w.tells(ann, "3")
	w.hears(c, all(heard("3")))
	w.cut(c)
	w.tells(ann, "4")
	w.hears(a, "")
	w.hears(c, "")
	w.stores("bob", heard("4")...)
}

// It is the least one that is flushed, whoever asked for it.
func TestFlushGoesToTheLeast(t *testing.T) {
	w, ann := news(t)
	first := w.bound("bob", "a", "<enable/><presence/>", strings.Repeat("<message/>", api.MaxQueue-1))
	second := w.bound("bob", "b")
	w.tells(ann, "1", "2")
	w.hears(first, all(heard("1")))
	w.says(second, "<presence/>", "")
	w.hears(first, "")
	w.cut(first)
	w.says(second, "<presence/>", all(heard("1", "2")))
	w.stores("bob")
}

// Two texts that are alike are two entries: to acknowledge the one leaves the other.
func TestAlikeEntries(t *testing.T) {
	w, ann := news(t)
	bob := w.bound("bob", "y", "<enable/><presence/>")
	w.tells(ann, "a", "a", "a")
	w.hears(bob, all(heard("a", "a", "a")))
	w.says(bob, acked(1), "")
	w.stores("bob", heard("a", "a")...)
	w.cut(bob)
	// Another connection takes what is left; behind that comes one more that is alike, for nobody is there.
	other := w.bound("bob", "z", "<presence/>")
	w.hears(other, "")
	w.stores("bob")
	w.cut(other)
	w.tells(ann, "a")
	w.stores("bob", heard("a")...)
	c := w.known("bob")
	token := "t" + strconv.Itoa(bob)
	w.says(c, resume(token, 3), resumed(token, 1)+all(heard("a")))
	w.stores("bob", heard("a")...)
	w.says(c, acked(4), "")
	w.stores("bob")
}

// A log that was emptied goes on: what comes then is sent to those who were sent all, and is no entry of before.
func TestEmptiedLog(t *testing.T) {
	w, ann := news(t)
	plain, managed := w.bound("bob", "p", "<presence/>"), -1
	for _, i := range []string{"a", "b", "c"} {
		w.tells(ann, i)
		w.hears(plain, all(heard(i)))
		w.stores("bob")
	}
	w.cut(plain)
	managed = w.bound("bob", "m", "<enable/><presence/>")
	for h, i := range []string{"d", "e", "f"} {
		w.tells(ann, i)
		w.hears(managed, all(heard(i)))
		w.stores("bob", heard(i)...)
		w.says(managed, acked(h+1), "")
		w.stores("bob")
	}
	// While it is a ghost too.
	w.tells(ann, "g")
	w.cut(managed)
	token := "t" + strconv.Itoa(managed)
	plain = w.bound("bob", "p")
	w.says(plain, "<presence/>", all(heard("g")))
	w.says(plain, "<presence type='unavailable'/>", "")
	w.tells(ann, "h")
	c := w.known("bob")
	w.says(c, resume(token, 4), resumed(token, 1)+all(heard("h")))
	w.stores("bob", heard("h")...)
}

// One who was sent something and comes anew is sent all that it did not acknowledge.
func TestComesAnew(t *testing.T) {
	w, ann := news(t)
	bob := w.bound("bob", "y", "<enable/><presence/>")
	w.tells(ann, "a", "b", "c")
	w.says(bob, acked(1), all(heard("a", "b", "c")))
	for range 2 {
		bob = w.bound("bob", "y", "<enable/>")
		w.says(bob, "<presence/>", all(heard("b", "c")))
	}
	w.cut(bob)
	for range 3 {
		w.tick()
	}
	w.says(w.bound("bob", "z"), "<presence/>", all(heard("b", "c")))
	w.stores("bob")
}
