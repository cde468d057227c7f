package text

import (
	"strings"

	"heliograph/api"
)

const digits = "ABCDEFGHIJKLMNOPQRSTUVWXYZabcdefghijklmnopqrstuvwxyz0123456789+/"

// Base64 is s in base 64.
func Base64(s string) string {
	b := make([]byte, 0, len(s)/3*4+4)
	for ; len(s) >= 3; s = s[3:] {
		b = append(b, group(s[0], s[1], s[2])...)
	}
	switch len(s) {
	case 1:
		b = append(b, group(s[0], 0, 0)[:2]...)
		b = append(b, "=="...)
	case 2:
		b = append(b, group(s[0], s[1], 0)[:3]...)
		b = append(b, '=')
	}
	return string(b)
}

func group(x, y, z byte) string {
	n := uint32(x)<<16 | uint32(y)<<8 | uint32(z)
	return string([]byte{digits[n>>18], digits[n>>12&63], digits[n>>6&63], digits[n&63]})
}

// Unbase64 is what a text in base 64 says.
func Unbase64(s string) (string, api.Errno) {
	var b []byte
	bits, held := uint32(0), 0
	for _, r := range strings.TrimRight(s, "=") {
		d, ok := digit(r)
		if !ok {
			return "", api.ErrForm
		}
		bits, held = bits<<6|d, held+6
		if held >= 8 {
			held -= 8
			b = append(b, byte(bits>>held))
			bits &= 1<<held - 1
		}
	}
	// A wrong length, wrong filling or bits left over show in that they are not written back so.
	plain := string(b)
	if Base64(plain) != s {
		return "", api.ErrForm
	}
	return plain, api.OK
}

func digit(r rune) (uint32, bool) {
	switch {
	case 'A' <= r && r <= 'Z':
		return uint32(r - 'A'), true
	case 'a' <= r && r <= 'z':
		return uint32(r-'a') + 26, true
	case '0' <= r && r <= '9':
		return uint32(r-'0') + 52, true
	case r == '+':
		return 62, true
	case r == '/':
		return 63, true
	}
	return 0, false
}
