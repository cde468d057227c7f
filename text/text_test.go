package text

import (
	"strings"
	"testing"

	"heliograph/api"
)

// odd are texts of all kinds, wrong UTF-8 among them.
var odd = []string{"", "a", "a<b", "<>&'\"", "&&amp;&amp;amp;", "&lt;", "\x00", "\xff", "a\xc3<\xa4&", "\xe2\x82", "\xed\xa0\x80", "ä€😀\uFFFD\uFFFE\uFFFF", "\t\r\n ", "<\x80>", strings.Repeat("<ä\xff>", 5000)}

// P2.1
func TestChars(t *testing.T) {
	for _, s := range []string{"", "abc", "\t\n\r", " ~\x7f", "\u0080\u009f", "ä€", "\uD7FF\uE000", "\uFFFD", "\xef\xbf\xbd", "\U00010000", "\U0001FFFE\U0001FFFF", "\U0010FFFF", "<&>"} {
		if !Chars(s) {
			t.Errorf("%q is told wrong", s)
		}
	}
	wrong := []string{"\x80", "\xbf", "\xc3", "\xc0\x80", "\xc1\xbf", "\xe0\x80\x80", "\xed\xa0\x80", "\xed\xbf\xbf", "\xf4\x90\x80\x80", "\xf5\x80\x80\x80", "\xff", "\xe2\x82", "\xf0\x9f\x98", "\xc3\x28", "\uFFFE", "\uFFFF", "\xef\xbf\xbe"}
	for _, s := range wrong {
		for _, s := range []string{s, "ab" + s, s + "ab", "\uFFFD" + s} {
			if Chars(s) {
				t.Errorf("%q is told right", s)
			}
		}
	}
}

// P2.1
func TestCharsOfEachByte(t *testing.T) {
	for b := range 256 {
		s := string([]byte{'x', byte(b), 'y'})
		want := b == 9 || b == 10 || b == 13 || b >= 32 && b < 128
		if Chars(s) != want {
			t.Errorf("byte %d: want %v", b, want)
		}
	}
}

// P2.1
func TestEscape(t *testing.T) {
	for s, want := range map[string]string{
		"":             "",
		"plain; text":  "plain; text",
		"a<b":          "a&lt;b",
		"&":            "&amp;",
		"<":            "&lt;",
		">":            "&gt;",
		"'":            "&apos;",
		"\"":           "&quot;",
		"&lt;":         "&amp;lt;",
		"<>&'\"":       "&lt;&gt;&amp;&apos;&quot;",
		"ä<€>😀":        "ä&lt;€&gt;😀",
		"\xff<\xc3&":   "\xff&lt;\xc3&amp;",
		"\uFFFD\x00\n": "\uFFFD\x00\n",
	} {
		if e := Escape(s); e != want {
			t.Errorf("Escape(%q): %q, want %q", s, e, want)
		}
	}
}

// P2.1
func TestUnescape(t *testing.T) {
	for s, want := range map[string]string{
		"":                              "",
		"plain; text":                   "plain; text",
		"a&lt;b":                        "a<b",
		"&lt;&gt;&amp;&apos;&quot;":     "<>&'\"",
		"&amp;lt;":                      "&lt;",
		"&amp;amp;amp;":                 "&amp;amp;",
		"&lt;;":                         "<;",
		"x>y ' \"":                      "x>y ' \"",
		"ä&lt;€":                        "ä<€",
		"\xff&amp;\xc3":                 "\xff&\xc3",
		"\x00\uFFFD":                    "\x00\uFFFD",
		strings.Repeat("&amp;a", 30000): strings.Repeat("&a", 30000),
	} {
		if u, e := Unescape(s); u != want || e != api.OK {
			t.Errorf("Unescape(%.40q): %.40q %d, want %.40q", s, u, e, want)
		}
	}
}

// P2.1
func TestUnescapeWrong(t *testing.T) {
	for _, s := range []string{"<", "a<b", "&lt;<", "<&", "&", "&&", "a&", "&;", "&x;", "&amp", "&am;", "&ampx;", "&AMP;", "&Lt;", "& lt;", "&lt ;", "&#38;", "&#x26;", "&nbsp;", "&lt&gt;", "&&lt;", "&amp;&", "&lt\xff;", "&" + strings.Repeat("a", 1<<16) + ";"} {
		for _, s := range []string{s, "ok&lt;" + s, s + "ok"} {
			if u, e := Unescape(s); u != "" || e != api.ErrForm {
				t.Errorf("Unescape(%.20q): %.20q %d", s, u, e)
			}
		}
	}
}

// P2.3
func TestUnescapeOfEscape(t *testing.T) {
	for _, s := range odd {
		e := Escape(s)
		if u, errno := Unescape(e); u != s || errno != api.OK {
			t.Errorf("%.40q: %.40q %d", s, u, errno)
		}
		if strings.ContainsAny(e, "<>'\"") {
			t.Errorf("%.40q: not all is escaped: %.40q", s, e)
		}
	}
}

// P2.2
func TestName(t *testing.T) {
	for _, s := range []string{"a", "z", "A", "Z", "_", "a0", "_9", "x-y_z.w:v", "iq", "a-", "a.", "a:", strings.Repeat("n", api.MaxName)} {
		if !Name(s) {
			t.Errorf("%q is told wrong", s)
		}
	}
	for _, s := range []string{"", "0", "9a", "-a", ".a", ":a", " a", "a ", "a b", "a/b", "a@b", "a;", "a,", "a+", "a[", "a`", "a{", "é", "aé", "a\xff", "\xff", "a\x00", "a\uFFFD", "a\n", "٣", "a٣", strings.Repeat("n", api.MaxName+1)} {
		if Name(s) {
			t.Errorf("%q is told right", s)
		}
	}
}

// P2.2: every byte, at the beginning and behind it.
func TestNameOfEachByte(t *testing.T) {
	const letters = "ABCDEFGHIJKLMNOPQRSTUVWXYZabcdefghijklmnopqrstuvwxyz"
	for b := range 256 {
		s := string([]byte{byte(b)})
		begin := b < 128 && strings.Contains(letters+"_", s)
		behind := b < 128 && strings.Contains(letters+"_0123456789-.:", s)
		if Name(s) != begin || Name(s+"a") != begin || Name("a"+s) != behind || Name("a"+s+"a") != behind {
			t.Errorf("byte %d", b)
		}
	}
}

// P2.2
func TestSpace(t *testing.T) {
	for _, s := range []string{"", " ", "\t", "\n", "\r", " \t\r\n ", strings.Repeat(" ", 1<<16)} {
		if !Space(s) {
			t.Errorf("%.20q is told wrong", s)
		}
	}
	for _, s := range []string{"a", " a", "a ", "\v", "\f", "\x00", "\u00a0", "\u0085", "\u2003", "\ufeff", "\xff", " \x20\x80"} {
		if Space(s) {
			t.Errorf("%q is told right", s)
		}
	}
}
