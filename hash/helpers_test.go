package hash_test

import (
	"bytes"
	"testing"

	"dialtone/api"
	"dialtone/hash"
)

// chooser chooses numbers by a fixed sequence.
type chooser uint64

func (c *chooser) word() uint32 {
	*c = *c*6364136223846793005 + 1442695040888963407
	return uint32(*c >> 32)
}

func (c *chooser) below(n int) int { return int(c.word()>>1) % n }

// bytes returns n bytes.
func (c *chooser) bytes(n int) []byte {
	b := make([]byte, n)
	for i := range b {
		b[i] = byte(c.word() >> 13)
	}
	return b
}

// state returns a state that no call returned, with all bytes of Tail set.
func (c *chooser) state(n uint64) api.HashState {
	s := api.HashState{N: n}
	for i := range s.H {
		s.H[i] = c.word()
	}
	copy(s.Tail[:], c.bytes(64))
	return s
}

// counts are numbers of bytes around the bounds of blocks, of words and of what N can hold.
func counts() []uint64 {
	var l []uint64
	for _, base := range []uint64{0, 64, 1 << 29, 1 << 32, 1 << 61, 1<<61 + 1<<40, 1 << 63, -64 & (1<<64 - 1)} {
		for n := range uint64(64) {
			l = append(l, base+n)
		}
	}
	return l
}

// checkFeed checks Feed against the definition, and that it leaves its arguments alone.
func checkFeed(t *testing.T, s api.HashState, b []byte) {
	t.Helper()
	roomy := append(bytes.Clone(b), "behind"...)
	got, want := hash.Feed(s, roomy[:len(b)]), fed(s, b)
	if got != want {
		t.Fatalf("Feed(%+v, %d bytes) = %+v; want %+v", s, len(b), got, want)
	}
	if !bytes.Equal(roomy, append(bytes.Clone(b), "behind"...)) {
		t.Fatalf("Feed of %d bytes changes them, or what is behind them", len(b))
	}
}
