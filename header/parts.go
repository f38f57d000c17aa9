package header

import (
	"doorward/api"
	"doorward/varint"
)

// Bits of the first byte.
const (
	longBit    = 0x80
	fixedBit   = 0x40 // 1 of every header
	kindBits   = 0x30 // of a long one
	phaseBit   = 0x04 // of a short one
	cutBits    = 0x03 // how many bytes Cut has, less 1
	longZeros  = 0x0c // 0 of a long one
	shortZeros = 0x38 // 0 of a short one
)

// kindUnit is what a kind is counted by in the first byte.
const kindUnit = 0x10

// versionSize is how many bytes a version has.
const versionSize = 4

// together is all that is handed in, one behind the other.
func together(parts ...[]byte) []byte {
	var b []byte
	for _, p := range parts {
		b = append(b, p...)
	}
	return b
}

// counted is at most api.MaxCid bytes, behind a byte that tells how many.
func counted(b []byte) []byte { return together([]byte{byte(len(b))}, b) }

func putVersion(v uint32) []byte {
	b := make([]byte, versionSize)
	for i := range b {
		b[versionSize-1-i] = byte(v >> (8 * i))
	}
	return b
}

func readVersion(r *varint.Reader) uint32 {
	var v uint32
	for _, x := range r.Bytes(versionSize) {
		v = v<<8 | uint32(x)
	}
	return v
}

// firstOf is the first byte of a right header.
func firstOf(h api.Header) []byte {
	first := fixedBit | byte(len(h.Cut)-1)
	if h.Long {
		first |= longBit | byte(h.Kind*kindUnit)
	}
	if h.Phase {
		first |= phaseBit
	}
	return []byte{first}
}

// mayBegin tells if a right header may have such a first byte.
func mayBegin(first byte) bool {
	switch {
	case first&fixedBit == 0:
		return false
	case first&longBit == 0:
		return first&shortZeros == 0
	case first&longZeros != 0:
		return false
	}
	kind := first & kindBits / kindUnit
	return kind == api.Initial || kind == api.Handshake
}

// partsOf is what a first byte that may begin a header tells: what stands in the byte itself, and how many bytes Cut has.
func partsOf(first byte) (h api.Header, size uint64) {
	size = uint64(first&cutBits) + 1
	if first&longBit != 0 {
		return api.Header{Long: true, Kind: int(first & kindBits / kindUnit)}, size
	}
	return api.Header{Phase: first&phaseBit != 0}, size
}

// readWhose reads a long header's parts up to Dst: they stand there in each kind.
func readWhose(r *varint.Reader, h *api.Header) {
	h.Version = readVersion(r)
	h.Dst = r.Bytes(uint64(r.Byte()))
}

// readLong reads what stands behind a long header's first byte, where Cut has so many bytes; the reader is bad, if the bytes behind can't be told.
func readLong(r *varint.Reader, h *api.Header, size uint64) {
	var all uint64
	readWhose(r, h)
	h.Src = r.Bytes(uint64(r.Byte()))
	if h.Kind == api.Initial {
		h.Token = r.Bytes(r.Int())
	}
	all = r.Int()
	if all < size {
		goto wrong
	}
	if all > uint64(r.Left()) {
		goto missing
	}
	h.Cut = r.Bytes(size)
	h.Rest = int(all - size)
	return
missing:
	r.Fail(api.ErrShort)
	return
wrong:
	// Also of an integer that isn't there, as it is told as 0: the reader is bad by ErrShort then, and stays so.
	r.Fail(api.ErrForm)
}

// readShort reads what stands behind a short header's first byte, where Cut has so many bytes.
func readShort(r *varint.Reader, h *api.Header, size uint64) {
	h.Dst = r.Bytes(api.CidSize)
	h.Cut = r.Bytes(size)
	h.Rest = r.Left()
}
