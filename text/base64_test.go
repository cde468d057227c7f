package text

import (
	"encoding/base64"
	"strings"
	"testing"

	"heliograph/api"
)

// P2.2
func TestBase64(t *testing.T) {
	for s, want := range map[string]string{
		"":             "",
		"f":            "Zg==",
		"fo":           "Zm8=",
		"foo":          "Zm9v",
		"foob":         "Zm9vYg==",
		"\x00ann\x00p": "AGFubgBw",
		"\x00":         "AA==",
		"\xff":         "/w==",
		"\xff\xff":     "//8=",
		"\xff\xff\xff": "////",
		"\xfb\xef\xbe": "++++",
		"ä":            "w6Q=",
	} {
		if b := Base64(s); b != want {
			t.Errorf("Base64(%q): %q, want %q", s, b, want)
		}
		if u, e := Unbase64(want); u != s || e != api.OK {
			t.Errorf("Unbase64(%q): %q %d", want, u, e)
		}
	}
}

// P2.2: every byte at every place of a group, held against the library.
func TestBase64OfEachByte(t *testing.T) {
	for b := range 256 {
		for size := range 8 {
			for at := range size {
				l := []byte("\x00\xff\x55\xaa\x01\x80\x7f")[:size]
				l[at] = byte(b)
				if got, want := Base64(string(l)), base64.StdEncoding.EncodeToString(l); got != want {
					t.Fatalf("Base64(%q): %q, want %q", l, got, want)
				}
			}
		}
	}
}

// P2.2
func TestUnbase64Wrong(t *testing.T) {
	for _, s := range []string{
		"A", "AA", "AAA", "AAAAA", "=", "==", "===", "====", "A=", "A==", "A===", "AA=", "AAA==", "AA===", "AAAA=", "AAAA==", "AAAA===", "AAAA====",
		"AA=A", "A=AA", "=AAA", "AA==AAAA", "AAA=AAAA", "AA==AA==",
		"AB==", "AP==", "A/==", "AAB=", "AAC=", "AAD=", "AA/=",
		"AAA\n", "AAAA\n", "\nAAAA", "AA AA", " AAAA", "AA==\n", "AA\n==",
		"AAA-", "AAA_", "AAA.", "AAA@", "AAA[", "AAA`", "AAA{", "AAA:", "AA\x00A", "AAA\xff", "AAÄ", "AAA\uFFFD",
	} {
		if u, e := Unbase64(s); u != "" || e != api.ErrForm {
			t.Errorf("Unbase64(%q): %q %d", s, u, e)
		}
	}
}

// P2.2: a text is right just if it is Base64 of something; tried with all texts of a small alphabet.
func TestUnbase64OfAllShortTexts(t *testing.T) {
	const letters = "AQgB9+/=\n"
	strict := base64.StdEncoding.Strict()
	texts := []string{""}
	for range 5 {
		var longer []string
		for _, s := range texts {
			want, err := strict.DecodeString(s)
			right := err == nil && !strings.Contains(s, "\n") // the library skips line feeds
			u, e := Unbase64(s)
			if right && (u != string(want) || e != api.OK) || !right && (u != "" || e != api.ErrForm) {
				t.Errorf("Unbase64(%q): %q %d", s, u, e)
			}
			for _, r := range letters {
				longer = append(longer, s+string(r))
			}
		}
		texts = longer
	}
}

// P2.3
func TestUnbase64OfBase64(t *testing.T) {
	for _, s := range odd {
		if u, e := Unbase64(Base64(s)); u != s || e != api.OK {
			t.Errorf("%.40q: %.40q %d", s, u, e)
		}
	}
	all := make([]byte, 0, 1024)
	for i := range 1024 {
		if u, e := Unbase64(Base64(string(all))); u != string(all) || e != api.OK {
			t.Errorf("of %d bytes: %d", i, e)
		}
		all = append(all, byte(i*7+i/256))
	}
}
