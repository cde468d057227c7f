// Package text is texts. See ../../shared/doc/02-text.md.
package text

import (
	"strings"
	"unicode/utf8"

	"heliograph/api"
)

// entity is a character that XML has a name for.
type entity struct {
	char rune
	name string
}

var entities = [...]entity{{'&', "amp"}, {'<', "lt"}, {'>', "gt"}, {'\'', "apos"}, {'"', "quot"}}

// Chars tells whether s is right UTF-8 of characters that may be in XML.
func Chars(s string) bool {
	// Asked ahead, since a range gives U+FFFD both for that character and for a wrong byte.
	if !utf8.ValidString(s) {
		return false
	}
	for _, r := range s {
		if !char(r) {
			return false
		}
	}
	return true
}

func char(r rune) bool {
	switch r {
	case '\t', '\n', '\r':
		return true
	case 0xFFFE, 0xFFFF:
		return false
	}
	return r >= ' '
}

// Escape is s with entities instead of the characters that have one.
func Escape(s string) string {
	var b strings.Builder
	copied := 0
	for i, r := range s {
		if name := entityName(r); name != "" {
			// Pieces are copied as bytes: a wrong byte, written as a rune, would be another one.
			b.WriteString(s[copied:i] + "&" + name + ";")
			copied = i + 1
		}
	}
	b.WriteString(s[copied:])
	return b.String()
}

func entityName(r rune) string {
	for _, e := range entities {
		if e.char == r {
			return e.name
		}
	}
	return ""
}

// Unescape is the text that one with entities says.
func Unescape(s string) (string, api.Errno) {
	chars := entityChars()
	var b strings.Builder
	copied := 0
	for i, r := range s {
		if r == '<' {
			return "", api.ErrForm
		}
		if r != '&' {
			continue
		}
		name, _, ended := strings.Cut(s[i+1:], ";")
		c, ok := chars[name]
		if !ended || !ok {
			return "", api.ErrForm
		}
		b.WriteString(s[copied:i])
		b.WriteRune(c)
		copied = i + len("&") + len(name) + len(";")
	}
	b.WriteString(s[copied:])
	return b.String(), api.OK
}

func entityChars() map[string]rune {
	m := map[string]rune{}
	for _, e := range entities {
		m[e.name] = e.char
	}
	return m
}

// Name tells whether s may be a name.
func Name(s string) bool {
	if s == "" || len(s) > api.MaxName {
		return false
	}
	for i, r := range s {
		if !begins(r) && (i == 0 || !goesOn(r)) {
			return false
		}
	}
	return true
}

func begins(r rune) bool {
	return 'A' <= r && r <= 'Z' || 'a' <= r && r <= 'z' || r == '_'
}

func goesOn(r rune) bool {
	return '0' <= r && r <= '9' || r == '-' || r == '.' || r == ':'
}

// Space tells whether s is nothing but blanks, tabs, line feeds and returns.
func Space(s string) bool {
	for _, r := range s {
		switch r {
		case ' ', '\t', '\n', '\r':
		default:
			return false
		}
	}
	return true
}
