package hash_test

import (
	"bytes"
	"crypto/sha256"
	"encoding/hex"
	"strings"
	"testing"

	"dialtone/api"
	"dialtone/hash"
)

// P6.1
func TestStart(t *testing.T) {
	want := api.HashState{H: [8]uint32{0x6a09e667, 0xbb67ae85, 0x3c6ef372, 0xa54ff53a, 0x510e527f, 0x9b05688c, 0x1f83d9ab, 0x5be0cd19}}
	s := hash.Start()
	if s != want {
		t.Errorf("Start() = %+v; want %+v", s, want)
	}
	s.H[0], s.N, s.Tail[0] = 1, 2, 3
	if hash.Start() != want {
		t.Error("Start returns another state after its result was changed")
	}
}

// P6.1: what the state is around the bounds of blocks
func TestFeedBounds(t *testing.T) {
	for _, x := range []struct {
		n, tail int
		first   bool // whether no block is complete
	}{
		{0, 0, true}, {1, 1, true}, {55, 55, true}, {56, 56, true}, {63, 63, true},
		{64, 0, false}, {65, 1, false}, {127, 63, false}, {128, 0, false}, {129, 1, false}, {1000, 40, false},
	} {
		b := bytes.Repeat([]byte{7}, x.n)
		s := hash.Feed(hash.Start(), b)
		var tail [64]byte
		copy(tail[:], b[:x.tail])
		if s.N != uint64(x.n) || s.Tail != tail || (s.H == hash.Start().H) != x.first {
			t.Errorf("Feed of %d bytes = %+v", x.n, s)
		}
	}
}

// P6.1: the hash value after a block, for a block whose words are all different
func TestFeedBlock(t *testing.T) {
	var b []byte
	for i := range 64 {
		b = append(b, byte(i))
	}
	s := hash.Feed(hash.Start(), b)
	want := [8]uint32{0xfc99a2df, 0x88f42a7a, 0x7bb9d180, 0x33cdc6a2, 0x0256755f, 0x9d5b9a50, 0x44a9cc31, 0x5abe84a7}
	if s.H != want || s.N != 64 || s.Tail != [64]byte{} {
		t.Errorf("Feed of the bytes 0 to 63 = %x, %d, %v; want %x", s.H, s.N, s.Tail, want)
	}
}

// P6.1: all lengths, from the first state
func TestFeedLengths(t *testing.T) {
	c := chooser(1)
	for n := range 400 {
		checkFeed(t, hash.Start(), c.bytes(n))
	}
	checkFeed(t, hash.Start(), c.bytes(1<<17+9))
	if hash.Feed(hash.Start(), nil) != hash.Start() || hash.Feed(hash.Start(), []byte{}) != hash.Start() {
		t.Error("Feed of no bytes changes the first state")
	}
}

// P6.1: any state may be passed; the bytes of Tail that do not count are ignored, and 0 in the result
func TestFeedAnyState(t *testing.T) {
	c := chooser(2)
	for _, n := range counts() {
		for _, size := range []int{0, 1, int(63 - n%64), int(64 - n%64), int(65 - n%64), int(128 - n%64), 64, c.below(300)} {
			checkFeed(t, c.state(n), c.bytes(size))
		}
		s := c.state(n)
		checkFeed(t, s, nil)
		other := s
		for i := n % 64; i < 64; i++ {
			other.Tail[i] ^= 255
		}
		b := c.bytes(70)
		if hash.Feed(s, b) != hash.Feed(other, b) || hash.Feed(s, nil) != hash.Feed(other, nil) {
			t.Errorf("N %d: bytes of Tail count that should not", n)
		}
	}
	checkFeed(t, api.HashState{}, nil)
	checkFeed(t, api.HashState{}, c.bytes(200))
}

// P6.1: N increases modulo 2^64
func TestFeedCountWraps(t *testing.T) {
	c := chooser(3)
	s := c.state(1<<64 - 1)
	full := hash.Feed(s, []byte{9})
	if full.N != 0 || full.Tail != [64]byte{} || full.H == s.H {
		t.Errorf("Feed of the last byte that N counts = %+v", full)
	}
	if more := hash.Feed(s, []byte{9, 8, 7}); more.N != 2 || more.Tail != [64]byte{8, 7} || more.H != full.H {
		t.Errorf("Feed of three bytes beyond what N counts = %+v", more)
	}
}

// P6.2: the examples of the chapter, and what is published
func TestText(t *testing.T) {
	for _, x := range [][2]string{
		{"", "e3b0c44298fc1c149afbf4c8996fb92427ae41e4649b934ca495991b7852b855"},
		{"abc", "ba7816bf8f01cfea414140de5dae2223b00361a396177a9cb410ff61f20015ad"},
		{"abcdbcdecdefdefgefghfghighijhijkijkljklmklmnlmnomnopnopq", "248d6a61d20638b8e5c026930c3e6039a33ce45964ff2167f6ecedd419db06c1"},
		{"abcdefghbcdefghicdefghijdefghijkefghijklfghijklmghijklmnhijklmnoijklmnopjklmnopqklmnopqrlmnopqrsmnopqrstnopqrstu", "cf5b16a778af8380036ce59e7b0492370b249b11e8f07a51afac45037afee9d1"},
		{strings.Repeat("a", 1000000), "cdc76e5c9914fb9281a1c7e284d73e67f1809a48a497200e046d39ccc7112cd0"},
	} {
		if got := hash.Text(x[0]); got != x[1] {
			t.Errorf("Text of %d bytes = %s; want %s", len(x[0]), got, x[1])
		}
	}
}

// P6.2: Text takes the bytes of a text, whatever they are, and keeps the zeros of its digits
func TestTextBytes(t *testing.T) {
	for _, s := range []string{"\x00", "\xff", "\xc3\x28", "\u00e9\u20ac", "a\x00b", "\r\n", "\xed\xa0\x80"} {
		sum := hash.Sum([]byte(s))
		if got := hash.Text(s); got != hex.EncodeToString(sum[:]) || len(got) != 64 {
			t.Errorf("Text(%q) = %s; Sum is %x", s, got, sum)
		}
	}
	leading := 0
	for c := range 256 {
		s := string([]byte{byte(c), 'x'})
		want := sha256.Sum256([]byte(s))
		if got := hash.Text(s); got != hex.EncodeToString(want[:]) {
			t.Errorf("Text(%q) = %s; want %x", s, got, want)
		} else if got[0] == '0' {
			leading++
		}
	}
	if leading == 0 {
		t.Error("no text begins with the digit 0")
	}
}

// P6.2: all lengths, against the definition and against another program for the same hash
func TestSumLengths(t *testing.T) {
	c := chooser(4)
	for n := range 400 {
		b := c.bytes(n)
		roomy := append(bytes.Clone(b), "behind"...)
		got := hash.Sum(roomy[:n])
		if got != sha256.Sum256(b) || got != finished(fed(api.HashState{H: firstH}, b)) {
			t.Errorf("Sum of %d bytes = %x; want %x", n, got, sha256.Sum256(b))
		}
		if got != hash.Finish(hash.Feed(hash.Start(), b)) {
			t.Errorf("Sum of %d bytes is not Finish of Feed of Start", n)
		}
		if string(roomy) != string(b)+"behind" {
			t.Errorf("Sum of %d bytes changes them, or what is behind them", n)
		}
	}
	if hash.Sum(nil) != hash.Sum([]byte{}) || hash.Sum(nil) != sha256.Sum256(nil) {
		t.Errorf("Sum(nil) = %x", hash.Sum(nil))
	}
}

// P6.2: many messages of bytes that are all alike, which differ in a single bit of their length
func TestSumAlike(t *testing.T) {
	for _, c := range []byte{0, 127, 128, 255} {
		for n := range 300 {
			b := bytes.Repeat([]byte{c}, n)
			if got := hash.Sum(b); got != sha256.Sum256(b) {
				t.Errorf("Sum of %d bytes %d = %x", n, c, got)
			}
		}
	}
}

// P6.2: any state may be passed; the bytes of Tail that do not count are ignored
func TestFinishAnyState(t *testing.T) {
	c := chooser(5)
	for _, n := range counts() {
		s := c.state(n)
		if got, want := hash.Finish(s), finished(s); got != want {
			t.Fatalf("Finish(%+v) = %x; want %x", s, got, want)
		}
		other := s
		clear(other.Tail[n%64:])
		if hash.Finish(s) != hash.Finish(other) {
			t.Errorf("N %d: bytes of Tail count that should not", n)
		}
	}
	if hash.Finish(api.HashState{}) != finished(api.HashState{}) {
		t.Error("Finish of the zero state")
	}
}

// P6.2: the length is 8 N modulo 2^64, in eight bytes
func TestFinishLength(t *testing.T) {
	c := chooser(6)
	s := c.state(5)
	sums := map[[32]byte]int{}
	for bit := range 64 {
		other := s
		other.N ^= 1 << bit &^ 63
		sums[hash.Finish(other)] = bit
	}
	if len(sums) != 55+1 {
		t.Errorf("the numbers of bytes lead to %d hashes; want those of 55 that 8 N tells apart, and that of N itself", len(sums))
	}
	other := s
	other.N += 1 << 61
	if hash.Finish(s) != hash.Finish(other) {
		t.Error("N and N + 2^61 have different lengths")
	}
}
