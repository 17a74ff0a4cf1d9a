package hash_test

import (
	"encoding/binary"
	"math/big"
	"slices"

	"dialtone/api"
)

// The definitions of chapter 6, read plainly. The numbers are computed from the primes instead of being copied.

// primes returns the first n primes.
func primes(n int) []int64 {
	var l []int64
	for x := int64(2); len(l) < n; x++ {
		if !slices.ContainsFunc(l, func(p int64) bool { return x%p == 0 }) {
			l = append(l, x)
		}
	}
	return l
}

// fraction returns the first 32 bits of the fraction of the root of x, of which the power is x.
func fraction(x int64, power int64) uint32 {
	target := new(big.Int).Lsh(big.NewInt(x), uint(32*power))
	root := new(big.Int)
	for bit := 40; bit >= 0; bit-- {
		more := new(big.Int).SetBit(root, bit, 1)
		if new(big.Int).Exp(more, big.NewInt(power), nil).Cmp(target) <= 0 {
			root = more
		}
	}
	return uint32(root.Uint64())
}

// firstValue returns the first hash value.
func firstValue() [8]uint32 {
	var h [8]uint32
	for i, p := range primes(8) {
		h[i] = fraction(p, 2)
	}
	return h
}

// tableOfK returns the constants K0 to K63.
func tableOfK() [64]uint32 {
	var k [64]uint32
	for i, p := range primes(64) {
		k[i] = fraction(p, 3)
	}
	return k
}

var (
	firstH = firstValue()
	tableK = tableOfK()
)

func rotated(x uint32, n uint) uint32 { return x>>n | x<<(32-n) }

// processed returns the hash value h after a block of 64 bytes.
func processed(h [8]uint32, block []byte) [8]uint32 {
	var w [64]uint32
	for i := range 16 {
		w[i] = binary.BigEndian.Uint32(block[4*i:])
	}
	for i := 16; i < 64; i++ {
		x, y := w[i-15], w[i-2]
		s0 := rotated(x, 7) ^ rotated(x, 18) ^ (x >> 3)
		s1 := rotated(y, 17) ^ rotated(y, 19) ^ (y >> 10)
		w[i] = s1 + w[i-7] + s0 + w[i-16]
	}
	v := slices.Clone(h[:])
	for i := range 64 {
		a, b, c, e, f, g := v[0], v[1], v[2], v[4], v[5], v[6]
		t := v[7] + (rotated(e, 6) ^ rotated(e, 11) ^ rotated(e, 25)) + ((e & f) ^ (^e & g)) + tableK[i] + w[i]
		u := (rotated(a, 2) ^ rotated(a, 13) ^ rotated(a, 22)) + ((a & b) ^ (a & c) ^ (b & c))
		v[3] += t
		v = append([]uint32{t + u}, v[:7]...)
	}
	for i := range h {
		h[i] += v[i]
	}
	return h
}

// fed returns the state after the bytes b, of any state.
func fed(s api.HashState, b []byte) api.HashState {
	open := append(slices.Clone(s.Tail[:s.N%64]), b...)
	after := api.HashState{H: s.H, N: s.N + uint64(len(b))}
	for ; len(open) >= 64; open = open[64:] {
		after.H = processed(after.H, open[:64])
	}
	copy(after.Tail[:], open)
	return after
}

// finished returns the hash that any state leads to.
func finished(s api.HashState) [32]byte {
	rest := append(slices.Clone(s.Tail[:s.N%64]), 128)
	for len(rest)%64 != 56 {
		rest = append(rest, 0)
	}
	rest = binary.BigEndian.AppendUint64(rest, 8*s.N)
	h := s.H
	for ; len(rest) > 0; rest = rest[64:] {
		h = processed(h, rest[:64])
	}
	var sum [32]byte
	for i, x := range h {
		binary.BigEndian.PutUint32(sum[4*i:], x)
	}
	return sum
}
