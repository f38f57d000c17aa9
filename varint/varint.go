// Package varint is layer 1: integers of unlike lengths. See shared/doc/01-varint.md.
package varint

import (
	"bytes"
	"math/bits"

	"doorward/api"
)

// markBits are the first byte's highest bits, which tell how many bytes an integer is written in.
const markBits = 2

// greatestOf is the greatest integer that so many bytes hold beside the mark.
func greatestOf(size int) uint64 { return 1<<(8*size-markBits) - 1 }

// Size is how many bytes an integer has; 0 of what is none.
func Size(n uint64) int {
	for size := 1; size <= 8; size *= 2 {
		if n <= greatestOf(size) {
			return size
		}
	}
	return 0
}

// Put is an integer's bytes; none of what is none.
func Put(n uint64) []byte { return Wide(n, Size(n)) }

// Wide is an integer in so many bytes; none, if an integer never has so many, or it doesn't fit.
func Wide(n uint64, size int) []byte {
	switch size {
	case 1, 2, 4, 8:
	default:
		return nil
	}
	if n > greatestOf(size) {
		return nil
	}
	b := make([]byte, size)
	for i := range b {
		b[size-1-i] = byte(n >> (8 * i))
	}
	b[0] |= byte(bits.TrailingZeros(uint(size))) << (8 - markBits)
	return b
}

// Reader reads bytes from the first one on, until one isn't there. A copy of it by value reads on by itself, so that who needs to look ahead may do so.
type Reader struct {
	rest []byte // never written to: copies of a reader share it
	bad  api.Errno
}

// Read is a reader.
func Read(b []byte) *Reader {
	// The caller may go on to change b: a reader keeps nothing of what is handed in.
	return &Reader{rest: bytes.Clone(b)}
}

// next goes past n bytes, and tells them as they stand in the reader's own memory.
func (r *Reader) next(n uint64) (b []byte, there bool) {
	if r.Bad() != api.OK {
		goto missing
	}
	if n > uint64(r.Left()) {
		goto missing
	}
	b, r.rest = r.rest[:n], r.rest[n:]
	return b, true
missing:
	// A reader that is bad already keeps its first error: Fail sees to that.
	r.Fail(api.ErrShort)
	return nil, false
}

// Int is the integer that stands there, also one that is longer than it takes; 0, if it isn't there.
func (r *Reader) Int() uint64 {
	var n uint64
	var others []byte
	first, there := r.next(1)
	if !there {
		goto missing
	}
	others, there = r.next(1<<(first[0]>>(8-markBits)) - 1)
	if !there {
		goto missing
	}
	n = uint64(first[0]) & greatestOf(1)
	for _, b := range others {
		n = n<<8 | uint64(b)
	}
	return n
missing:
	return 0
}

// Byte is the byte that stands there; 0, if it isn't there.
func (r *Reader) Byte() byte {
	if b, there := r.next(1); there {
		return b[0]
	}
	return 0
}

// Bytes are so many that stand there; none, if they aren't all there.
func (r *Reader) Bytes(n uint64) []byte {
	b, _ := r.next(n)
	return bytes.Clone(b)
}

// Left is how many bytes are left; 0 of a bad reader.
func (r *Reader) Left() int {
	if r == nil {
		return 0
	}
	return len(r.rest)
}

// Bad is the error that the reader is bad by; OK, if it isn't.
func (r *Reader) Bad() api.Errno {
	if r == nil {
		return api.ErrArg
	}
	return r.bad
}

// Fail makes it bad by an error, if it isn't bad already; OK does nothing.
func (r *Reader) Fail(e api.Errno) {
	if r.Bad() != api.OK || e == api.OK {
		return
	}
	// Nothing is read of a bad reader any more: it needn't keep what is left.
	r.rest, r.bad = nil, e
}
