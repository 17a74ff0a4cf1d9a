package address

import (
	"strings"

	"dialtone/api"
)

// The classes of characters.
const (
	ClassUser  = 0
	ClassParam = 1
	ClassHead  = 2
)

const (
	marks      = "-_.!~*'()" // in every class, with the letters and the digits
	hexDigits  = "0123456789ABCDEF"
	escapeSize = 3
)

// classes contains the characters that a class has beside those of every class.
var classes = [...]string{
	ClassUser:  "&=+$,;?/",
	ClassParam: "[]/:&+$",
	ClassHead:  "[]/?:+$",
}

// inClass reports whether c is a character of the class.
func inClass(c byte, class int) bool {
	if letter(c) || digit(c) || strings.IndexByte(marks, c) >= 0 {
		return true
	}
	return class >= 0 && class < len(classes) && strings.IndexByte(classes[class], c) >= 0
}

func digit(c byte) bool { return '0' <= c && c <= '9' }

func letter(c byte) bool { return 'A' <= c && c <= 'Z' || 'a' <= c && c <= 'z' }

func control(c byte) bool { return c < ' ' && c != '\t' || c == 127 }

// contains reports whether a byte of s is of a kind.
func contains(s string, kind func(byte) bool) bool {
	for i := range len(s) {
		if kind(s[i]) {
			return true
		}
	}
	return false
}

// lower returns s with the letters A to Z replaced by a to z. (The package strings would change other bytes, too.)
func lower(s string) string {
	var b strings.Builder
	for i := range len(s) {
		c := s[i]
		if 'A' <= c && c <= 'Z' {
			c += 'a' - 'A'
		}
		b.WriteByte(c)
	}
	return b.String()
}

// Escape escapes the bytes that are not in a class.
func Escape(s string, class int) string {
	var b strings.Builder
	for i := range len(s) {
		if c := s[i]; inClass(c, class) {
			b.WriteByte(c)
		} else {
			b.WriteByte('%')
			b.WriteByte(hexDigits[c>>4])
			b.WriteByte(hexDigits[c&15])
		}
	}
	return b.String()
}

// Unescape replaces the escapes.
func Unescape(s string) (string, int, api.Errno) {
	var b strings.Builder
	for at := 0; at < len(s); at++ {
		c := s[at]
		if c == '%' {
			stands, ok := escape(s[at:])
			if !ok {
				return "", at, api.ErrSyntax
			}
			c = stands
			at += escapeSize - 1
		}
		b.WriteByte(c)
	}
	return b.String(), 0, api.OK
}

// escape returns the byte that the escape stands for with which s begins.
func escape(s string) (byte, bool) {
	if len(s) < escapeSize || s[0] != '%' {
		return 0, false
	}
	high, okHigh := hexValue(s[1])
	low, okLow := hexValue(s[2])
	if !okHigh || !okLow {
		return 0, false
	}
	return high<<4 | low, true
}

// hexValue returns the value of a hexadecimal digit.
func hexValue(c byte) (byte, bool) {
	switch {
	case digit(c):
		return c - '0', true
	case 'A' <= c && c <= 'F':
		return c - 'A' + 10, true
	case 'a' <= c && c <= 'f':
		return c - 'a' + 10, true
	}
	return 0, false
}
