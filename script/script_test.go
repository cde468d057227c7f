package script

import (
	"math/rand"
	"regexp"
	"strconv"
	"strings"
	"testing"

	"heliograph/api"
	"heliograph/gateway"
)

func wantRun(t *testing.T, text string, want ...string) {
	t.Helper()
	all := ""
	for _, s := range want {
		all += s + "\n"
	}
	if got := Run(text); got != all {
		t.Errorf("%q answers\n%q, want\n%q", text, got, all)
	}
}

// P16.1: lines, and what is none.
func TestSplit(t *testing.T) {
	for line, want := range map[string]struct {
		word string
		conn int
		rest string
	}{
		"a": {"a", -1, ""}, "connect": {"connect", -1, ""}, "\u00e9\t\xff": {"\u00e9\t\xff", -1, ""}, "0": {"0", -1, ""},
		"a 0": {"a", 0, ""}, "a 1": {"a", 1, ""}, "a 10": {"a", 10, ""}, "cut 9999": {"cut", 9999, ""}, "1 2": {"1", 2, ""},
		"a 0 b": {"a", 0, "b"}, "feed 12 a b": {"feed", 12, "a b"}, "a 1  b ": {"a", 1, " b "}, "a 1 ": {"a", 1, ""}, "a 1  ": {"a", 1, " "}, "a 1 2 3": {"a", 1, "2 3"}, "a 1 \u00e9\xff\t": {"a", 1, "\u00e9\xff\t"},
	} {
		word, conn, rest, ok := Split(line)
		if word != want.word || conn != want.conn || rest != want.rest || !ok {
			t.Errorf("%q: %q, %d, %q, %v", line, word, conn, rest, ok)
		}
	}
	for _, line := range []string{"", " ", "  ", " a", " 1", " 1 b", "a ", "a  ", "a  1", "a b", "a 1x", "a x1", "a 01", "a 00", "a 0000", "a 10000", "a -1", "a +1", "a -0", "a 1.0", "a 1_0", "a 0x1", "a \u0661", "a 1\t", "a\t1 b", "a 18446744073709551617", "a 01 b", "a -1 b"} {
		if word, conn, rest, ok := Split(line); word != "" || conn != 0 || rest != "" || ok {
			t.Errorf("%q: %q, %d, %q, %v", line, word, conn, rest, ok)
		}
	}
}

var lineForm = regexp.MustCompile(`(?s)^([^ ]+)(?: (0|[1-9][0-9]{0,3})(?: (.*))?)?$`)

// P16.1, P1: all short texts of some signs, against a pattern.
func TestSplitAll(t *testing.T) {
	signs := []string{"a", " ", "0", "1", "-", "\n"}
	for n, total := 0, 1; n <= 7; n, total = n+1, total*len(signs) {
		for k := range total {
			line := ""
			for i, v := 0, k; i < n; i, v = i+1, v/len(signs) {
				line += signs[v%len(signs)]
			}
			word, conn, rest, ok := Split(line)
			x := lineForm.FindStringSubmatch(line)
			if ok != (x != nil) {
				t.Fatalf("%q: %v", line, ok)
			}
			if !ok {
				x = []string{"", "", "0", ""}
			}
			want, err := strconv.Atoi(x[2])
			if err != nil {
				want = -1
			}
			if word != x[1] || conn != want || rest != x[3] {
				t.Fatalf("%q: %q, %d, %q", line, word, conn, rest)
			}
		}
	}
}

// P16.1: how many lines.
func TestCount(t *testing.T) {
	for text, want := range map[string]int{"": 0, "a": 1, "\n": 2, "a\n": 2, "a\nb": 2, "\n\n": 3, "a b c": 1, "\r": 1, "\u2028\u0085": 1, "\xff\n\xff\xc3\n": 3, strings.Repeat("\n", 9000): 9001} {
		if got := Count(text); got != want {
			t.Errorf("%q: %d, want %d", text, got, want)
		}
	}
}

// P16.1: MaxScript bytes may be.
func TestLong(t *testing.T) {
	full := "connect\n" + strings.Repeat("\n", api.MaxScript-len("connect\n"))
	wantRun(t, full, "ok 0")
	wantRun(t, full+"\n", "long")
	wantRun(t, strings.Repeat("x", api.MaxScript), "word")
	wantRun(t, strings.Repeat("x", api.MaxScript+1), "long")
	wantRun(t, strings.Repeat("\u00e9", api.MaxScript/2)+"x", "long")
}

// P16.1: each line's answer; empty lines have none.
func TestAnswers(t *testing.T) {
	wantRun(t, "")
	wantRun(t, "\n\n\n")
	wantRun(t, "connect", "ok 0")
	wantRun(t, "connect\n\nconnect\n", "ok 0", "ok 1")
	wantRun(t, strings.Repeat("connect\n", 9), "ok 0", "ok 1", "ok 2", "ok 3", "ok 4", "ok 5", "ok 6", "ok 7", "error 4")
	wantRun(t, "tick\ntick", "ok", "ok")
	wantRun(t, "nodes", "-")
	wantRun(t, "out 0\njid 0\nstored 0\nout 9999", "", "-", "0", "")
	wantRun(t, "cut 0\nfeed 0 x\ncrash 0\nfeed 9999 x", "error 10", "error 10", "error 10", "error 10")
	wantRun(t, "connect\nfeed 0 <x>\nout 0\nout 0\nfeed 0 y\ncut 0", "ok 0", "ok", "<stream><error><host-unknown/></error></stream>", "", "error 10", "error 10")
	wantRun(t, "connect\ncut 0\ncut 0\nconnect\ncrash 1\nconnect\ncrash 1\nout 1", "ok 0", "ok", "error 10", "ok 1", "ok", "ok 2", "error 10", "")
	wantRun(t, "connect\nfeed 0 <stream\nfeed 0  to='d'>\nout 0", "ok 0", "ok", "ok", "<stream from='d' id='0'>")
	// A rest that is empty is one.
	wantRun(t, "connect\nfeed 0 \nfeed 1 \nfeed 0\ncut 0 \ncut 0", "ok 0", "ok", "error 10", "word", "word", "ok")
}

// P16.1: what is no line, or has a number, or a rest, too many, or not.
func TestWords(t *testing.T) {
	for _, line := range []string{
		" ", "a", "Connect", "connect ", " connect", "connect 0", "connect 0 x", "connects", "connect\r", "tick 0", "tick 0 x", "tick ", "nodes 0", "nodes 0 x", "nodes n",
		"feed", "feed 0", "feed x y", "feed 01 x", "feed  x", "cut", "cut ", "cut x", "cut 0 x", "cut 0 ", "cut -1", "cut 10000", "out", "out 0 x", "out 0 ", "out 01", "crash", "crash 0 x", "crash 0 ", "jid", "jid 0 x", "jid 0 ", "stored", "stored 0 x", "stored 0 ", "stored ann", "long", "word", "ok", "error 1", "-", "\xff", "Feed 0 x", "open 0", "fork",
	} {
		wantRun(t, "connect\n"+line+"\ncut 0", "ok 0", "word", "ok")
	}
}

const (
	ann = "<stream to='d'><auth>AGFubgBwYQ==</auth><bind>x</bind><presence/>"
	bob = "<stream to='d'><auth>AGJvYgBwYg==</auth><bind>y</bind>"
	cy  = "<stream to='d'><auth>AGN5AHBj</auth><bind>z</bind>"
)

func set(inside string) string {
	return "<iq type='set' id='1'><pubsub>" + inside + "</pubsub></iq>"
}

// The server: the domain d, three users, 200 sectors; and what is told of it.
func TestServer(t *testing.T) {
	feed := func(n int, s string) string { return "feed " + strconv.Itoa(n) + " " + s + "\n" }
	start := "connect\nconnect\nconnect\n" + feed(0, ann+set("<create node='n' type='leaf'/>")+set("<create node='b' type='collection'/>")) + feed(1, bob+set("<subscribe node='n' depth='0'/>")) + feed(2, cy+set("<subscribe node='n' depth='0'/>")) + "jid 0\njid 1\njid 2\nnodes\n"
	told := []string{"ok 0", "ok 1", "ok 2", "ok", "ok", "ok", "ann@d/x", "bob@d/y", "cy@d/z", "b n"}
	wantRun(t, start, told...)
	one := feed(0, set("<publish node='n' item='i'>t</publish>"))
	wantRun(t, start+one+one+feed(2, "<presence/>")+"stored 0\nstored 1\nstored 2\nstored 3\nstored 9999\ncut 1\njid 1\njid 3", append(told, "ok", "ok", "ok", "0", "2", "0", "0", "0", "ok", "-", "-")...)
	// 99 sectors of 64 bytes hold no more than three such texts, with two events of each.
	text := func(i int) string {
		return feed(0, set("<publish node='n' item='i"+strconv.Itoa(i)+"'>"+strings.Repeat("x", 500)+"</publish>"))
	}
	full := Run(start + text(1) + text(2) + text(3) + text(1) + text(2) + text(3) + "out 0\nstored 1")
	if !strings.Contains(full, "resource-constraint") || !strings.HasSuffix(full, "\n3\n") {
		t.Errorf("%q", full)
	}
	// What was saved is there behind a crash, and ghosts are not; ticks take ghosts away.
	ghost := func(between string) string {
		return Run(start + feed(1, "<enable/>") + "cut 1\n" + between + "connect\n" + feed(3, bob[:strings.Index(bob, "<bind")]+"<resume previd='t1' h='0'/>") + "jid 3\nnodes\n")
	}
	for between, want := range map[string]string{"": "bob@d/y\nb n\n", "tick\ntick\n": "bob@d/y\nb n\n", "tick\ntick\ntick\n": "-\nb n\n", "crash 0\n": "-\nb n\n"} {
		if got := ghost(between); !strings.HasSuffix(got, "\n"+want) {
			t.Errorf("%q: %q", between, got)
		}
	}
}

// The room of a script's server is that of 200 sectors, to the byte.
func TestRoom(t *testing.T) {
	whole := func(last int) string {
		in := ann
		for i := range 12 {
			node, item := strconv.Itoa(i/4), strconv.Itoa(i)
			if i%4 == 0 {
				in += set("<create node='" + node + "' type='leaf'/>")
			}
			size := 510
			if i == 11 {
				size = last
			}
			in += set("<publish node='" + node + "' item='" + item + "'>" + strings.Repeat("x", size) + "</publish>")
		}
		return in
	}
	full := 0
	for last := 400; last < 500; last++ {
		s := gateway.New("d", 200, users()...)
		s.Connect()
		s.Feed(0, []byte(whole(last)))
		out := string(s.Out(0))
		if strings.Contains(out, "resource-constraint") {
			full++
		}
		wantRun(t, "connect\nfeed 0 "+whole(last)+"\nout 0", "ok 0", "ok", out)
	}
	if full < 10 || full > 90 {
		t.Errorf("%d are full", full)
	}
}

// P16.1: crash is without bytes: what waits in the midst of an element is lost.
func TestCrash(t *testing.T) {
	wantRun(t, "connect\nfeed 0 "+ann+"\nfeed 0 "+set("<create node='n' type='leaf'/>")+"<iq\ncrash 0\nout 0\nnodes\nconnect", "ok 0", "ok", "ok", "ok", "", "n", "ok 1")
}

func randomScript(r *rand.Rand) []string {
	var l []string
	lines := []string{"connect", "connect", "tick", "nodes", "cut N", "out N", "crash N", "jid N", "stored N", "feed N " + ann, "feed N " + bob, "feed N <presence/><enable/>", "feed N " + set("<create node='n' type='leaf'/>"), "feed N " + set("<subscribe node='n' depth='0'/>"), "feed N " + set("<publish node='n' item='i'/>"), "", "x", "cut", "nodes 1", "feed N \xff<"}
	for range 5 + r.Intn(20) {
		l = append(l, strings.ReplaceAll(lines[r.Intn(len(lines))], "N", strconv.Itoa(r.Intn(3))))
	}
	return l
}

// P16.2: a beginning's answers are those of all, as far as they go. P16.3: jid, stored and nodes change nothing.
func TestWhatFollows(t *testing.T) {
	r := rand.New(rand.NewSource(1))
	for range 200 {
		l := randomScript(r)
		whole := Run(strings.Join(l, "\n"))
		var with []string
		answers := 0
		for i, line := range l {
			if begun := Run(strings.Join(l[:i+1], "\n")); !strings.HasPrefix(whole, begun) {
				t.Fatalf("%q: %q, of its beginning %q", l, whole, begun)
			}
			with = append(with, "jid 0", "jid 1", "stored 0", "stored 1", "stored 2", "nodes", line)
			if line != "" {
				answers++
			}
		}
		if strings.Count(whole, "\n") != answers {
			t.Fatalf("%q: %q", l, whole)
		}
		got := ""
		at := 0
		for _, s := range strings.SplitAfter(Run(strings.Join(with, "\n")), "\n") {
			if at%7 == 6 && l[at/7] == "" {
				at++
			}
			if at%7 == 6 {
				got += s
			}
			at++
		}
		if got != whole {
			t.Fatalf("%q: %q, with questions between %q", l, whole, got)
		}
	}
}

// P6: a script begins with a server of its own.
func TestNothingKept(t *testing.T) {
	s := "connect\nfeed 0 " + ann + set("<create node='n' type='leaf'/>") + "\nnodes"
	for range 3 {
		wantRun(t, s, "ok 0", "ok", "n")
	}
	if len(users()) != 3 || users()[0] != (gateway.User{Name: "ann", Secret: "pa"}) {
		t.Error(users())
	}
}
