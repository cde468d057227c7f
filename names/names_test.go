package names

import (
	"regexp"
	"strings"
	"testing"

	"heliograph/api"
)

var (
	nameForm    = regexp.MustCompile(`\A[a-z0-9-]{1,24}\z`)
	addressForm = regexp.MustCompile(`\A([a-z0-9._-]+@)?[a-z0-9._-]+\z`)
)

// texts are all of one and two bytes, and those at the edges.
func texts() []string {
	l := []string{"", "a@b@c", "a@d/", "a@d/r", "d/r", "/r", "@d", "a@", "A@d", "a@D", "D", "a b@d", "a.b_c-1@d.e", "n-1", "\u00e9", "n\u00e9", "abc\x00", "-n-", "0", "a.b", "a_b"}
	for _, n := range []int{23, 24, 25, api.MaxJid - 2, api.MaxJid - 1, api.MaxJid, api.MaxJid + 1} {
		l = append(l, strings.Repeat("a", n), strings.Repeat("-", n), "b@"+strings.Repeat("a", n), strings.Repeat("a", n)+"@d")
	}
	for c := range 256 {
		l = append(l, string([]byte{byte(c)}))
		for d := range 256 {
			l = append(l, string([]byte{byte(c), byte(d)}))
		}
	}
	return l
}

func TestName(t *testing.T) {
	for _, s := range texts() {
		if got, want := Name(s), nameForm.MatchString(s); got != want {
			t.Errorf("Name(%q): %v", s, got)
		}
	}
}

func TestAddress(t *testing.T) {
	for _, s := range texts() {
		if got, want := Address(s), len(s) <= api.MaxJid && addressForm.MatchString(s); got != want {
			t.Errorf("Address(%q): %v", s, got)
		}
	}
}
