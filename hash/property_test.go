package hash_test

import (
	"bytes"
	"crypto/sha256"
	"strings"
	"testing"

	"dialtone/api"
	"dialtone/hash"
)

// P6.4: a message in two pieces, and in three
func TestPieces(t *testing.T) {
	c := chooser(7)
	for _, n := range []int{0, 1, 55, 56, 63, 64, 65, 128, 200} {
		b := c.bytes(n)
		whole := hash.Feed(hash.Start(), b)
		for i := range n + 1 {
			begun := hash.Feed(hash.Start(), b[:i])
			if hash.Feed(begun, b[i:]) != whole {
				t.Errorf("%d bytes divided at %d lead to another state", n, i)
			}
			for j := i; j <= n; j++ {
				if hash.Feed(hash.Feed(begun, b[i:j]), b[j:]) != whole {
					t.Errorf("%d bytes divided at %d and %d lead to another state", n, i, j)
				}
			}
		}
	}
}

// P6.4: a message in many pieces, some of them empty, behind any state
func TestManyPieces(t *testing.T) {
	c := chooser(8)
	for round := range 300 {
		s := hash.Start()
		if round%2 == 1 {
			s = c.state(uint64(c.word())<<32 | uint64(c.word()))
		}
		b := c.bytes(c.below(1000))
		whole := hash.Feed(s, b)
		most := 1 + c.below(150)
		for rest := b; len(rest) > 0; {
			n := min(c.below(most+1), len(rest))
			s = hash.Feed(s, rest[:n])
			rest = rest[n:]
		}
		if s = hash.Feed(s, nil); s != whole || hash.Finish(s) != hash.Finish(whole) {
			t.Fatalf("%d bytes in pieces of at most %d lead to another state", len(b), most)
		}
	}
}

// P6.4: one byte at a time, with the hash of each beginning; a state may go on in several ways
func TestByteByByte(t *testing.T) {
	c := chooser(9)
	b := c.bytes(300)
	s := hash.Start()
	for i := range b {
		before := s
		s = hash.Feed(s, b[i:i+1])
		if hash.Finish(s) != sha256.Sum256(b[:i+1]) || hash.Finish(before) != sha256.Sum256(b[:i]) {
			t.Fatalf("wrong hash of the first %d bytes", i+1)
		}
	}
}

// P6.4
func TestHexAndBack(t *testing.T) {
	c := chooser(10)
	for n := range 300 {
		b := c.bytes(n)
		if back, e := hash.Unhex(hash.Hex(b)); e != api.OK || !bytes.Equal(back, b) {
			t.Errorf("Unhex of Hex of %v = %v, %d", b, back, e)
		}
		text := make([]byte, 2*n)
		for i := range text {
			text[i] = "0123456789abcdefABCDEF"[c.below(22)]
		}
		s := string(text)
		back, e := hash.Unhex(s)
		if e != api.OK || hash.Hex(back) != strings.ToLower(s) {
			t.Errorf("Hex of Unhex of %q = %q, %d", s, hash.Hex(back), e)
		}
	}
}
