package hash_test

import (
	"bytes"
	"strings"
	"testing"

	"dialtone/api"
	"dialtone/hash"
)

// valueOf returns the value of a digit, or -1.
func valueOf(c byte) int {
	at := strings.IndexByte("0123456789abcdefABCDEF", c)
	if at >= 16 {
		at -= 6
	}
	return at
}

// P6.3
func TestHex(t *testing.T) {
	for want, b := range map[string][]byte{
		"": nil, "00": {0}, "000aff": {0, 10, 255}, "0123456789abcdef": {0x01, 0x23, 0x45, 0x67, 0x89, 0xab, 0xcd, 0xef}, "f00f": {0xf0, 0x0f},
	} {
		before := bytes.Clone(b)
		if got := hash.Hex(b); got != want || !bytes.Equal(b, before) {
			t.Errorf("Hex(%v) = %q; want %q", before, got, want)
		}
	}
	if got := hash.Hex([]byte{}); got != "" {
		t.Errorf("Hex of no bytes = %q", got)
	}
	for c := range 256 {
		s := hash.Hex([]byte{byte(c)})
		if len(s) != 2 || s != strings.ToLower(s) || 16*valueOf(s[0])+valueOf(s[1]) != c {
			t.Errorf("Hex of the byte %d = %q", c, s)
		}
	}
}

// P6.3
func TestUnhex(t *testing.T) {
	for s, want := range map[string][]byte{
		"": {}, "0AfF": {10, 255}, "00": {0}, "ff": {255}, "FF": {255}, "aB": {0xab}, "Ab": {0xab}, "0123456789abcdefABCDEF": {0x01, 0x23, 0x45, 0x67, 0x89, 0xab, 0xcd, 0xef, 0xab, 0xcd, 0xef},
	} {
		if got, e := hash.Unhex(s); e != api.OK || !bytes.Equal(got, want) {
			t.Errorf("Unhex(%q) = %v, %d; want %v", s, got, e, want)
		}
	}
}

// P6.3: every text of two bytes
func TestUnhexTwoBytes(t *testing.T) {
	for c := range 256 {
		for d := range 256 {
			s := string([]byte{byte(c), byte(d)})
			b, e := hash.Unhex(s)
			high, low := valueOf(byte(c)), valueOf(byte(d))
			if high < 0 || low < 0 {
				if e != api.ErrSyntax || b != nil {
					t.Errorf("Unhex(%q) = %v, %d; want ErrSyntax", s, b, e)
				}
			} else if e != api.OK || len(b) != 1 || int(b[0]) != 16*high+low {
				t.Errorf("Unhex(%q) = %v, %d; want %d", s, b, e, 16*high+low)
			}
		}
	}
}

// P6.3: texts that are none, and nothing is returned beside the error
func TestUnhexSyntax(t *testing.T) {
	for _, s := range []string{"0", "f", "0g", "g0", "G0", "00 ", " 00", "00 0", "0x00", "0X", "000", "abc", "-1", "+1", "a:", "0/", "0@", "0`", "0G", "\xff\xff", "\u0660\u0661", "00\n", "\x00\x00", "ab\u00e9"} {
		if b, e := hash.Unhex(s); e != api.ErrSyntax || b != nil {
			t.Errorf("Unhex(%q) = %v, %d; want ErrSyntax", s, b, e)
		}
	}
	good := strings.Repeat("5A", 20)
	for at := range len(good) {
		if b, e := hash.Unhex(good[:at] + "_" + good[at+1:]); e != api.ErrSyntax || b != nil {
			t.Errorf("Unhex of a text that is wrong at %d = %v, %d; want ErrSyntax", at, b, e)
		}
		if b, e := hash.Unhex(good[:at]); (e == api.OK) != (at%2 == 0) || e != api.OK && b != nil {
			t.Errorf("Unhex of %d digits = %v, %d", at, b, e)
		}
	}
}

// P6.3: a result is new memory
func TestUnhexOwn(t *testing.T) {
	a, _ := hash.Unhex("0102")
	b, _ := hash.Unhex("0102")
	a[0] = 9
	if c, _ := hash.Unhex("0102"); !bytes.Equal(b, []byte{1, 2}) || !bytes.Equal(c, b) {
		t.Errorf("results of Unhex share memory: %v, %v", b, c)
	}
}
