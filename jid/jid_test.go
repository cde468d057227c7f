package jid

import (
	"regexp"
	"strings"
	"testing"

	"heliograph/api"
)

// pattern is a second reading of what an address's text is.
var pattern = regexp.MustCompile(`\A(?:([A-Za-z0-9_.-]+)@)?([A-Za-z0-9_.-]+)(?:/([A-Za-z0-9_.-]+))?\z`)

func read(s string) (api.Jid, bool) {
	m := pattern.FindStringSubmatch(s)
	if m == nil || len(s) > api.MaxJid {
		return api.Jid{}, false
	}
	return api.Jid{Local: m[1], Domain: m[2], Resource: m[3]}, true
}

// texts are all texts of up to n of these letters.
func texts(letters []string, n int) []string {
	all := []string{""}
	last := all
	for range n {
		var next []string
		for _, s := range last {
			for _, c := range letters {
				next = append(next, s+c)
			}
		}
		all = append(all, next...)
		last = next
	}
	return all
}

func wantRight(t *testing.T, s string, want api.Jid) {
	t.Helper()
	if j, e := Parse(s); j != want || e != api.OK {
		t.Errorf("Parse(%q): %q, error %d; want %q", s, j, e, want)
	}
	if back, e := Print(want); back != s || e != api.OK {
		t.Errorf("Print(%q): %q, error %d; want %q", want, back, e, s)
	}
	if !Right(want) {
		t.Errorf("%q is right", want)
	}
}

func wantWrongText(t *testing.T, s string) {
	t.Helper()
	if j, e := Parse(s); j != (api.Jid{}) || e != api.ErrForm {
		t.Errorf("Parse(%.100q): %q, error %d", s, j, e)
	}
}

func wantWrong(t *testing.T, j api.Jid) {
	t.Helper()
	if s, e := Print(j); s != "" || e != api.ErrForm || Right(j) {
		t.Errorf("Print(%.100q): %q, error %d; Right %v", j, s, e, Right(j))
	}
}

// P5.1, P5.2
func TestAddresses(t *testing.T) {
	wantRight(t, "romeo@example.net/orchard", api.Jid{Local: "romeo", Domain: "example.net", Resource: "orchard"})
	wantRight(t, "d", api.Jid{Domain: "d"})
	wantRight(t, "l@d", api.Jid{Local: "l", Domain: "d"})
	wantRight(t, "d/r", api.Jid{Domain: "d", Resource: "r"})
	wantRight(t, "AZ@az/09", api.Jid{Local: "AZ", Domain: "az", Resource: "09"})
	wantRight(t, "-@_/.", api.Jid{Local: "-", Domain: "_", Resource: "."})
	wantRight(t, "..@--/__", api.Jid{Local: "..", Domain: "--", Resource: "__"})
}

// P5.1: every byte, in each part.
func TestEveryByte(t *testing.T) {
	const may = "ABCDEFGHIJKLMNOPQRSTUVWXYZabcdefghijklmnopqrstuvwxyz0123456789-_."
	for c := range 256 {
		b := string([]byte{byte(c)})
		for _, x := range []string{b, "a" + b, b + "a", "a" + b + "a"} {
			for _, j := range []api.Jid{{Domain: x}, {Local: x, Domain: "d"}, {Domain: "d", Resource: x}, {Local: "l", Domain: x, Resource: "r"}} {
				if strings.Contains(may, b) {
					wantRight(t, join(j), j)
				} else {
					wantWrong(t, j)
				}
			}
			_, right := read(x)
			if _, e := Parse(x); (e == api.OK) != right {
				t.Errorf("Parse(%q): error %d", x, e)
			}
		}
	}
}

// P5.1: as long as may be, and one byte more.
func TestLimits(t *testing.T) {
	long := strings.Repeat("x", api.MaxJid)
	wantRight(t, long, api.Jid{Domain: long})
	wantWrongText(t, long+"x")
	wantWrong(t, api.Jid{Domain: long + "x"})

	some := long[:api.MaxJid-2]
	wantRight(t, "a@"+some, api.Jid{Local: "a", Domain: some})
	wantRight(t, some+"@a", api.Jid{Local: some, Domain: "a"})
	wantRight(t, some+"/a", api.Jid{Domain: some, Resource: "a"})
	wantRight(t, "a/"+some, api.Jid{Domain: "a", Resource: some})
	for _, j := range []api.Jid{{Local: "ab", Domain: some}, {Local: "a", Domain: some + "x"}, {Local: some, Domain: "ab"}, {Domain: some, Resource: "ab"}, {Domain: "ab", Resource: some}, {Local: "a", Domain: some, Resource: "a"}, {Local: some, Domain: "a", Resource: "a"}} {
		wantWrong(t, j)
		wantWrongText(t, join(j))
	}
	wantRight(t, "ab@"+long[:58]+"/cd", api.Jid{Local: "ab", Domain: long[:58], Resource: "cd"})
	wantWrong(t, api.Jid{Local: "ab", Domain: long[:59], Resource: "cd"})
	wantWrongText(t, "ab@"+long[:59]+"/cd")

	huge := strings.Repeat("x", 1<<20)
	wantWrongText(t, huge)
	wantWrong(t, api.Jid{Local: huge, Domain: huge, Resource: huge})
}

// P5.1
func TestWrongTexts(t *testing.T) {
	for _, s := range []string{"", "@", "/", "@/", "@d", "a@", "d/", "/r", "a@/r", "@d/r", "a@d/", "a@b@c", "a@@b", "d/x/y", "d//x", "d/x@y", "d/@", "a b", " d", "d ", "d\n", "a:b", "a&b", "\u00e4", "\xff", "d\x00", "\u0130"} {
		wantWrongText(t, s)
	}
}

// P5.1: an address without a domain, and with marks inside its parts.
func TestWrongAddresses(t *testing.T) {
	for _, j := range []api.Jid{
		{}, {Local: "a"}, {Resource: "r"}, {Local: "a", Resource: "r"},
		{Domain: "a@b"}, {Domain: "a/b"}, {Domain: "a@b/c"}, {Domain: "a@"}, {Domain: "@a"}, {Domain: "a/"}, {Domain: "/a"},
		{Local: "a@b", Domain: "c"}, {Local: "a/b", Domain: "c"}, {Local: "a@", Domain: "b"},
		{Domain: "a", Resource: "b/c"}, {Domain: "a", Resource: "b@c"}, {Domain: "a", Resource: "/b"},
		{Local: "a", Domain: "b@c"}, {Domain: "a/b", Resource: "c"}, {Local: " ", Domain: "d"}, {Domain: "d", Resource: " "},
	} {
		wantWrong(t, j)
	}
}

// P5.1, P5.2: all short texts, against a second reading.
func TestAllShortTexts(t *testing.T) {
	for _, s := range texts([]string{"a", "Z", ".", "@", "/", " "}, 6) {
		want, right := read(s)
		j, e := Parse(s)
		if j != want || (e == api.OK) != right || !right && e != api.ErrForm {
			t.Fatalf("Parse(%q): %q, error %d", s, j, e)
		}
		if back, e := Print(j); right && (back != s || e != api.OK) {
			t.Fatalf("Print of Parse(%q): %q, error %d", s, back, e)
		}
	}
}

// P5.1 to P5.3: all addresses of short parts, right ones and wrong ones.
func TestAllShortAddresses(t *testing.T) {
	parts := texts([]string{"a", "Z", "@", "/", "\u00c4", "\xff"}, 2)
	for _, local := range parts {
		for _, domain := range parts {
			for _, resource := range parts {
				j := api.Jid{Local: local, Domain: domain, Resource: resource}
				wantAll(t, j)
			}
		}
	}
}

func wantAll(t *testing.T, j api.Jid) {
	t.Helper()
	plain := func(s string) bool { return strings.Trim(s, "aZ") == "" }
	right := j.Domain != "" && plain(j.Local) && plain(j.Domain) && plain(j.Resource)
	if Right(j) != right {
		t.Fatalf("Right(%q): want %v", j, right)
	}
	s, e := Print(j)
	if right {
		if back, f := Parse(s); back != j || e != api.OK || f != api.OK {
			t.Fatalf("Parse of Print(%q): %q of %q, errors %d %d", j, back, s, e, f)
		}
	} else if s != "" || e != api.ErrForm {
		t.Fatalf("Print(%q): %q, error %d", j, s, e)
	}
	bare, normal := Bare(j), Normal(j)
	if bare != (api.Jid{Local: j.Local, Domain: j.Domain}) {
		t.Fatalf("Bare(%q): %q", j, bare)
	}
	if normal != (api.Jid{Local: strings.ReplaceAll(j.Local, "Z", "z"), Domain: strings.ReplaceAll(j.Domain, "Z", "z"), Resource: j.Resource}) {
		t.Fatalf("Normal(%q): %q", j, normal)
	}
	if Bare(bare) != bare || Normal(normal) != normal || right && !(Right(bare) && Right(normal)) {
		t.Fatalf("%q: Bare %q, Normal %q", j, bare, normal)
	}
}

// P5.1: just A to Z have small letters, whatever else is there.
func TestNormal(t *testing.T) {
	all := make([]byte, 256)
	for i := range all {
		all[i] = byte(i)
	}
	want := strings.Replace(string(all), "ABCDEFGHIJKLMNOPQRSTUVWXYZ", "abcdefghijklmnopqrstuvwxyz", 1)
	j := api.Jid{Local: string(all), Domain: string(all) + "\u0130\u00c4", Resource: string(all)}
	if n := Normal(j); n.Local != want || n.Domain != want+"\u0130\u00c4" || n.Resource != string(all) {
		t.Errorf("%q", n)
	}
	if n := Normal(api.Jid{Local: "Ann", Domain: "D.net", Resource: "Home"}); n != (api.Jid{Local: "ann", Domain: "d.net", Resource: "Home"}) {
		t.Errorf("%q", n)
	}
	if Normal(api.Jid{}) != (api.Jid{}) || Bare(api.Jid{}) != (api.Jid{}) {
		t.Error("of nothing")
	}
}
