package address_test

import (
	"fmt"
	"strings"
	"testing"

	"dialtone/address"
	"dialtone/api"
)

const everyClass = "ABCDEFGHIJKLMNOPQRSTUVWXYZabcdefghijklmnopqrstuvwxyz0123456789-_.!~*'()"

var classChars = map[int]string{
	address.ClassUser:  everyClass + "&=+$,;?/",
	address.ClassParam: everyClass + "[]/:&+$",
	address.ClassHead:  everyClass + "[]/?:+$",
	-1:                 everyClass,
	3:                  everyClass,
	-1 << 62:           everyClass,
	1 << 62:            everyClass,
}

// P2.1
func TestEscape(t *testing.T) {
	for _, c := range []struct {
		s     string
		class int
		want  string
	}{
		{"a b;c", address.ClassParam, "a%20b%3Bc"},
		{"a b;c", address.ClassUser, "a%20b;c"},
		{"", address.ClassUser, ""},
		{"%41", address.ClassHead, "%2541"},
		{"\x00\xff\xab", address.ClassHead, "%00%FF%AB"},
		{"a@b:c", address.ClassUser, "a%40b%3Ac"},
		{"a=b&c", address.ClassHead, "a%3Db%26c"},
		{"a;b", 7, "a%3Bb"},
	} {
		if got := address.Escape(c.s, c.class); got != c.want {
			t.Errorf("Escape(%q, %d) = %q; want %q", c.s, c.class, got, c.want)
		}
	}
	for class, chars := range classChars {
		for c := range 256 {
			s := string([]byte{byte(c)})
			want := s
			if !strings.Contains(chars, s) {
				want = fmt.Sprintf("%%%02X", c)
			}
			if got := address.Escape("x"+s+"y", class); got != "x"+want+"y" {
				t.Errorf("Escape of the byte %d with the class %d = %q", c, class, got)
			}
		}
	}
}

// P2.2
func TestUnescape(t *testing.T) {
	for _, c := range []struct {
		s, want string
		at      int
		e       api.Errno
	}{
		{"", "", 0, api.OK},
		{"abc", "abc", 0, api.OK},
		{"%41", "A", 0, api.OK},
		{"a%20b%3Bc", "a b;c", 0, api.OK},
		{"%2541", "%41", 0, api.OK},
		{"%c3%C3%0a%7F", "\xc3\xc3\n\x7f", 0, api.OK},
		{"\x00\xff @", "\x00\xff @", 0, api.OK},
		{"%41%zz", "", 3, api.ErrSyntax},
		{"%", "", 0, api.ErrSyntax},
		{"ab%", "", 2, api.ErrSyntax},
		{"ab%4", "", 2, api.ErrSyntax},
		{"ab%%41", "", 2, api.ErrSyntax},
		{"%4g%", "", 0, api.ErrSyntax},
		{"%g4", "", 0, api.ErrSyntax},
		{"%00%+1", "", 3, api.ErrSyntax},
		{"% 1", "", 0, api.ErrSyntax},
	} {
		if got, at, e := address.Unescape(c.s); got != c.want || at != c.at || e != c.e {
			t.Errorf("Unescape(%q) = %q, %d, %d; want %q, %d, %d", c.s, got, at, e, c.want, c.at, c.e)
		}
	}
	const digits = "0123456789ABCDEFabcdef"
	for high := range 256 {
		for low := range 256 {
			s := string([]byte{'x', '%', byte(high), byte(low), 'y'})
			got, at, e := address.Unescape(s)
			if strings.Contains(digits, s[2:3]) && strings.Contains(digits, s[3:4]) {
				var n byte
				fmt.Sscanf(s[2:4], "%x", &n)
				if got != "x"+string([]byte{n})+"y" || at != 0 || e != api.OK {
					t.Errorf("Unescape(%q) = %q, %d, %d", s, got, at, e)
				}
			} else if got != "" || at != 1 || e != api.ErrSyntax {
				t.Errorf("Unescape(%q) = %q, %d, %d", s, got, at, e)
			}
		}
	}
}

// P2.14: Unescape of what Escape returns is the text.
func TestEscapeIsReadBack(t *testing.T) {
	choose := chooser(1)
	for range 3000 {
		s := choose.text([]string{"a", "%", "%41", " ", ";", "@", "\x00", "\x80", "\xff", "É", "["}, 12)
		for class := range classChars {
			if got, at, e := address.Unescape(address.Escape(s, class)); got != s || at != 0 || e != api.OK {
				t.Errorf("%q with the class %d is read back as %q, %d, %d", s, class, got, at, e)
			}
		}
	}
}
