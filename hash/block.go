package hash

import "math/bits"

const (
	blockSize  = 64 // bytes of a block
	blockWords = 16
	hashWords  = 8
	rounds     = 64
)

// constants are K0 to K63.
var constants = [rounds]uint32{
	0x428a2f98, 0x71374491, 0xb5c0fbcf, 0xe9b5dba5, 0x3956c25b, 0x59f111f1, 0x923f82a4, 0xab1c5ed5,
	0xd807aa98, 0x12835b01, 0x243185be, 0x550c7dc3, 0x72be5d74, 0x80deb1fe, 0x9bdc06a7, 0xc19bf174,
	0xe49b69c1, 0xefbe4786, 0x0fc19dc6, 0x240ca1cc, 0x2de92c6f, 0x4a7484aa, 0x5cb0a9dc, 0x76f988da,
	0x983e5152, 0xa831c66d, 0xb00327c8, 0xbf597fc7, 0xc6e00bf3, 0xd5a79147, 0x06ca6351, 0x14292967,
	0x27b70a85, 0x2e1b2138, 0x4d2c6dfc, 0x53380d13, 0x650a7354, 0x766a0abb, 0x81c2c92e, 0x92722c85,
	0xa2bfe8a1, 0xa81a664b, 0xc24b8b70, 0xc76c51a3, 0xd192e819, 0xd6990624, 0xf40e3585, 0x106aa070,
	0x19a4c116, 0x1e376c08, 0x2748774c, 0x34b0bcb5, 0x391c0cb3, 0x4ed8aa4a, 0x5b9cca4f, 0x682e6ff3,
	0x748f82ee, 0x78a5636f, 0x84c87814, 0x8cc70208, 0x90befffa, 0xa4506ceb, 0xbef9a3f7, 0xc67178f2,
}

// process returns the hash value h after one more block.
func process(h [hashWords]uint32, block [blockSize]byte) [hashWords]uint32 {
	w := expanded(block)
	v := h
	for i := range rounds {
		v = afterRound(v, constants[i]+w[i])
	}
	for i := range hashWords {
		h[i] += v[i]
	}
	return h
}

// expanded returns the words W0 to W63 of a block.
func expanded(block [blockSize]byte) [rounds]uint32 {
	var w [rounds]uint32
	for i := range blockSize {
		w[i/4] = w[i/4]<<8 | uint32(block[i])
	}
	for i := blockWords; i < rounds; i++ {
		w[i] = small1(w[i-2]) + w[i-7] + small0(w[i-15]) + w[i-16]
	}
	return w
}

// afterRound returns the words a to h after the round of a constant and a word, whose sum is added.
func afterRound(v [hashWords]uint32, added uint32) [hashWords]uint32 {
	a, b, c, d, e, f, g, h := v[0], v[1], v[2], v[3], v[4], v[5], v[6], v[7]
	t := h + big1(e) + (e&f ^ ^e&g) + added
	u := big0(a) + (a&b ^ a&c ^ b&c)
	return [hashWords]uint32{t + u, a, b, c, d + t, e, f, g}
}

// small0 and small1 are s0 and s1, big0 and big1 are S0 and S1 of the document.

func small0(x uint32) uint32 { return rot(x, 7) ^ rot(x, 18) ^ x>>3 }

func small1(x uint32) uint32 { return rot(x, 17) ^ rot(x, 19) ^ x>>10 }

func big0(x uint32) uint32 { return rot(x, 2) ^ rot(x, 13) ^ rot(x, 22) }

func big1(x uint32) uint32 { return rot(x, 6) ^ rot(x, 11) ^ rot(x, 25) }

// rot returns x rotated right by n bits.
func rot(x uint32, n int) uint32 { return bits.RotateLeft32(x, -n) }
