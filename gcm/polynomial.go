package gcm

import (
	"iter"
	"math/bits"
)

// Sizes that a polynomial goes by.
const (
	bitsOfByte  = 8
	blockSize   = 16 // bytes
	wordSize    = 8  // bytes
	bitsOfWord  = bitsOfByte * wordSize
	bitsOfBlock = bitsOfByte * blockSize
)

// modulus is what x to the power 128 is: that to 0, 1, 2 and 7, in the first word.
const modulus = 0xe1 << (bitsOfWord - bitsOfByte)

// polynomial has a block's bits in their order: x to the power 0 is the highest one of the first word, x to the power 127 the lowest one of the last. So a polynomial times x is one whose bits went to the right.
type polynomial struct{ first, last uint64 }

func polynomialOf(block [blockSize]byte) polynomial {
	return polynomial{wordOf(block[:wordSize]), wordOf(block[wordSize:])}
}

// wordOf is what bytes are as a number, the highest first.
func wordOf(b []byte) uint64 {
	var word uint64
	for _, x := range b {
		word = word<<bitsOfByte | uint64(x)
	}
	return word
}

// bytes are the polynomial's block.
func (p polynomial) bytes() [blockSize]byte {
	var block [blockSize]byte
	for i := range wordSize {
		right := bitsOfByte * (wordSize - 1 - i)
		block[i], block[wordSize+i] = byte(p.first>>right), byte(p.last>>right)
	}
	return block
}

func (p polynomial) plus(q polynomial) polynomial {
	return polynomial{p.first ^ q.first, p.last ^ q.last}
}

// shift is the polynomial times x, with what goes over put in again.
func (p polynomial) shift() polynomial {
	over := p.last & 1
	return polynomial{p.first>>1 ^ over*modulus, p.last>>1 | p.first<<(bitsOfWord-1)}
}

// powers goes through the bits from the first one on, and tells those powers of x that are there. Most blocks have but half of them: what isn't there needn't be looked at.
func (p polynomial) powers() iter.Seq[int] {
	return func(yield func(int) bool) {
		for i, word := range [...]uint64{p.first, p.last} {
			for word != 0 {
				place := bits.LeadingZeros64(word)
				if !yield(i*bitsOfWord + place) {
					return
				}
				word ^= 1 << (bitsOfWord - 1 - place)
			}
		}
	}
}

// shifts are a polynomial times each power of x. All blocks of a sum are multiplied by the same one, so these are made but once for all of them.
type shifts [bitsOfBlock]polynomial

func shiftsOf(p polynomial) *shifts {
	var s shifts
	for i := range s {
		s[i] = p
		p = p.shift()
	}
	return &s
}

// times is the polynomial whose shifts these are times another one.
func (s *shifts) times(p polynomial) polynomial {
	var product polynomial
	for power := range p.powers() {
		product = product.plus(s[power])
	}
	return product
}

// behind is what a sum of y is behind a text, the last block of which is filled up.
func (s *shifts) behind(y polynomial, text []byte) polynomial {
	for len(text) > 0 {
		var block [blockSize]byte
		text = text[copy(block[:], text):]
		y = s.times(y.plus(polynomialOf(block)))
	}
	return y
}
