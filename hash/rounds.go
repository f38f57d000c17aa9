package hash

import (
	"math/bits"

	"doorward/api"
)

// Sizes that SHA-256 goes by.
const (
	blockSize = 64 // bytes
	hashSize  = 32 // bytes
	wordSize  = 4  // bytes
	countSize = 8  // bytes that tell a text's bits
	rounds    = 64
	given     = blockSize / wordSize // words that a block has itself
)

// endMark is the byte that stands behind a text.
const endMark = 0x80

// block is what goes through the rounds at once.
type block [blockSize]byte

// state is what is left of the blocks ahead.
type state [8]uint32

// digest is that of a text behind so many bytes, which went through the rounds already, in whole blocks, and left this state.
func (s state) digest(ahead int, text []byte) api.Hash {
	bitCount := 8 * (uint64(ahead) + uint64(len(text)))
	whole := len(text) / blockSize
	for i := range whole {
		s = s.behind(block(text[i*blockSize:]))
	}
	var last block
	n := copy(last[:], text[whole*blockSize:])
	last[n] = endMark
	if n >= blockSize-countSize {
		// The count doesn't fit behind the mark: it gets a block of its own.
		s = s.behind(last)
		last = block{}
	}
	for i := range countSize {
		last[blockSize-1-i] = byte(bitCount >> (8 * i))
	}
	return s.behind(last).bytes()
}

// behind is the state behind a block.
func (s state) behind(x block) state {
	w := words(x)
	a, b, c, d, e, f, g, h := s[0], s[1], s[2], s[3], s[4], s[5], s[6], s[7]
	for t := range rounds {
		t1 := h + (right(e, 6) ^ right(e, 11) ^ right(e, 25)) + (e&f ^ ^e&g) + api.K[t] + w[t]
		t2 := (right(a, 2) ^ right(a, 13) ^ right(a, 22)) + (a&b ^ a&c ^ b&c)
		h, g, f, e, d, c, b, a = g, f, e, d+t1, c, b, a, t1+t2
	}
	return state{s[0] + a, s[1] + b, s[2] + c, s[3] + d, s[4] + e, s[5] + f, s[6] + g, s[7] + h}
}

// words are one a round: a block's own ones, and those that follow from them.
func words(x block) [rounds]uint32 {
	var w [rounds]uint32
	for i := range blockSize {
		w[i/wordSize] = w[i/wordSize]<<8 | uint32(x[i])
	}
	for i := range rounds - given {
		t := i + given
		w[t] = s1(w[t-2]) + w[t-7] + s0(w[t-15]) + w[t-16]
	}
	return w
}

func s0(x uint32) uint32 { return right(x, 7) ^ right(x, 18) ^ x>>3 }

func s1(x uint32) uint32 { return right(x, 17) ^ right(x, 19) ^ x>>10 }

// right is a number whose bits went so many places to the right; those that fall off come in again at the left.
func right(x uint32, places int) uint32 { return bits.RotateLeft32(x, -places) }

// bytes are a state's, each word's highest first.
func (s state) bytes() api.Hash {
	var h api.Hash
	for i := range hashSize {
		h[i] = byte(s[i/wordSize] >> (8 * (wordSize - 1 - i%wordSize)))
	}
	return h
}
