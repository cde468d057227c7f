package node

import (
	"math/rand"
	"strings"
	"testing"

	"heliograph/api"
)

// decodes holds Decode against the second reading.
func decodes(t *testing.T, s string) bool {
	t.Helper()
	want, ok := modelNode(s)
	ok = ok && modelText(want) == s
	got, errno := Decode(s)
	if !ok {
		if errno != api.ErrForm || modelText(got) != modelText(api.Node{}) {
			t.Fatalf("%q: %+v, %d; want ErrForm", s, got, errno)
		}
		return false
	}
	if errno != api.OK || modelText(got) != modelText(want) || !Same(got, want) {
		t.Fatalf("%q: %+v, %d", s, got, errno)
	}
	if again, errno := Encode(got); again != s || errno != api.OK {
		t.Fatalf("%q: Encode of Decode is %q, %d", s, again, errno)
	}
	return true
}

// P11.1, P11.6: there and back, of nodes at all edges; those that are not right have no text, nor is theirs taken.
func TestEncodeAndDecode(t *testing.T) {
	for _, n := range variants() {
		s, errno := Encode(n)
		if !modelRight(n) {
			if s != "" || errno != api.ErrForm {
				t.Errorf("%+v: %q, %d", n, s, errno)
			}
		} else if s != modelText(n) || errno != api.OK {
			t.Errorf("%+v: %q, %d", n, s, errno)
		}
		if decodes(t, modelText(n)) != modelRight(n) {
			t.Errorf("%+v", n)
		}
	}
}

// P11.6: the longest text.
func TestLongest(t *testing.T) {
	n := api.Node{Name: strings.Repeat("n", 24), Max: 8, Parent: strings.Repeat("p", 24)}
	pad := strings.Repeat("x", 58)
	for i := range 16 {
		jid := string(rune('a'+i)) + pad + "@domn"
		n.Affs = append(n.Affs, api.Aff{Jid: jid, Role: api.Owner})
		n.Subs = append(n.Subs, api.Sub{Jid: jid, Depth: 255, Pending: true})
	}
	for i := range 8 {
		n.Items = append(n.Items, api.Item{Id: strings.Repeat(string(rune('a'+i)), 24), Publisher: n.Affs[i].Jid, Text: strings.Repeat("t", 512)})
	}
	if !decodes(t, modelText(n)) {
		t.Error("not decoded")
	}
}

// P11.1: texts that say a node, but not as its text does.
func TestDecodeRefuses(t *testing.T) {
	for _, s := range []string{
		"", ":", "0:", "1:", "1:c", "1:c1:c1:01:00:1:13:o@d1:51:01:", "x1:c1:c1:01:00:1:13:o@d1:51:01:0", "1:c1:c1:01:00:1:13:o@d1:51:01:0x", "1:c1:c1:01:00:1:13:o@d1:51:01:00:",
		"01:c1:c1:01:00:1:13:o@d1:51:01:0", "+1:c1:c1:01:00:1:13:o@d1:51:01:0", " 1:c1:c1:01:00:1:13:o@d1:51:01:0", "1 :c1:c1:01:00:1:13:o@d1:51:01:0", "-1:c1:c1:01:00:1:13:o@d1:51:01:0",
		"1_0:cccccccccc1:c1:01:00:1:13:o@d1:51:01:0", "0x1:c1:c1:01:00:1:13:o@d1:51:01:0", "1.0:c1:c1:01:00:1:13:o@d1:51:01:0", "1:c1:c2:001:00:1:13:o@d1:51:01:0",
		"1:c1:c1:02:000:1:13:o@d1:51:01:0", "1:c1:c1:02:+00:1:13:o@d1:51:01:0", "1:c1:c1:02:-00:1:13:o@d1:51:01:0", "1:c1:c1:00:0:1:13:o@d1:51:01:0", "1:c1:c0:1:00:1:13:o@d1:51:01:0",
		"1:c1:c1:01:00:2:013:o@d1:51:01:0", "1:c1:c1:01:00:1:13:o@d2:051:01:0", "1:c1:c1:01:00:1:13:o@d1:52:001:0", "1:c1:c1:01:00:1:13:o@d1:51:02:00",
		"1:c1:x1:01:00:1:13:o@d1:51:01:0", "1:c0:1:01:00:1:13:o@d1:51:01:0", "1:c1:C1:01:00:1:13:o@d1:51:01:0", "1:c2:cc1:01:00:1:13:o@d1:51:01:0",
		"1:c1:c1:31:00:1:13:o@d1:51:01:0", "1:c1:c3:2561:00:1:13:o@d1:51:01:0", "1:c1:c4:-2561:00:1:13:o@d1:51:01:0", "1:c1:c1:01:00:1:13:o@d3:2611:01:0", "1:c1:c1:01:11:1:13:o@d1:51:01:0",
		"1:c1:c1:01:00:1:23:o@d1:51:01:0", "1:c1:c1:01:00:2:-11:01:0", "1:c1:c1:01:00:10:99999999991:01:0", "1:c1:c1:01:00:20:184467440737095516173:o@d1:51:01:0", "18446744073709551617:c1:c1:01:00:1:13:o@d1:51:01:0",
		"1:c1:c1:01:00:1:01:01:0", "1:c1:c1:01:00:1:13:o@d1:21:01:0", "1:c1:c1:01:00:1:13:o@d1:41:01:0", "1:c1:c1:01:00:1:13:O@d1:51:01:0", "1:C1:c1:01:00:1:13:o@d1:51:01:0",
		"1:n1:l1:01:40:1:13:o@d1:51:13:s@d1:x1:01:0", "1:n1:l1:01:40:1:13:o@d1:51:13:s@d1:s3:2561:0", "1:n1:l1:01:40:1:13:o@d1:51:13:s@d1:s2:-11:0", "1:n1:l1:01:40:1:13:o@d1:51:13:s@d1:s2:071:0",
		"9223372036854775807:c", "9223372036854775808:c", "99999999999999999999999999999999:", "\xff", "1:\xff", "1\x00:c",
	} {
		if n, errno := Decode(s); errno != api.ErrForm || !Same(n, api.Node{}) {
			t.Errorf("%q: %+v, %d", s, n, errno)
		}
		decodes(t, s)
	}
}

// P11.1, P1: each beginning and each end of a text, and each with a byte that is another, is too many or too few.
func TestDecodeSpoilt(t *testing.T) {
	taken := 0
	for _, n := range []api.Node{sample(), collection()} {
		s := modelText(n)
		for i := range s {
			decodes(t, s[:i])
			decodes(t, s[i+1:])
			decodes(t, s[:i]+s[i+1:])
			for c := range 256 {
				one := string([]byte{byte(c)})
				decodes(t, s[:i]+one+s[i:])
				if decodes(t, s[:i]+one+s[i+1:]) {
					taken++
				}
			}
		}
	}
	if taken < 1000 {
		t.Errorf("only %d are texts of another node", taken)
	}
}

// P1: texts of no kind.
func TestDecodeOfAnything(t *testing.T) {
	r := rand.New(rand.NewSource(11))
	parts := []string{"1:n", "1:l", "1:c", "1:0", "1:1", "1:2", "0:", "3:o@d", "1:5", "1:s", "1:p", "1:4", ":", "2:", "1:x", "\xff", "9"}
	for range 50000 {
		var b strings.Builder
		for range r.Intn(24) {
			b.WriteString(parts[r.Intn(len(parts))])
		}
		decodes(t, b.String())
	}
}

// P1: a text that says much and has little ends at once.
func TestDecodeOfMuch(t *testing.T) {
	decodes(t, "1:c1:c1:01:00:9:999999999"+strings.Repeat("3:o@d1:5", 1000))
	decodes(t, strings.Repeat("9", 100000)+":")
	decodes(t, strings.Repeat("0:", 10000))
	decodes(t, strings.Repeat(":", 10000))
}
