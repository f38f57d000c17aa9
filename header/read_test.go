package header_test

import (
	"bytes"
	"math"
	"reflect"
	"testing"

	"doorward/api"
	"doorward/header"
	"doorward/varint"
)

// parses fails the test, if bytes don't begin with that header of so many bytes.
func parses(t *testing.T, what string, b []byte, want api.Header, size int) {
	t.Helper()
	if h, n, e := header.Parse(b); !header.Same(h, want) || n != size || e != api.OK {
		t.Errorf("%s: Parse(%x) = %+v, %d, %d, want %+v, %d, OK", what, b, h, n, e, want, size)
	}
}

// fails fails the test, if bytes aren't told as wrong by that error, or something is told beside it.
func fails(t *testing.T, what string, b []byte, want api.Errno) {
	t.Helper()
	if h, n, e := header.Parse(b); !reflect.DeepEqual(h, api.Header{}) || n != 0 || e != want {
		t.Errorf("%s: Parse(%x) = %+v, %d, %d, want a zero one, 0, %d", what, b, h, n, e, want)
	}
}

// peeks fails the test, if another Dst is peeked of bytes, or none.
func peeks(t *testing.T, what string, b, want []byte, isLong bool) {
	t.Helper()
	if dst, l, ok := header.Peek(b); !bytes.Equal(dst, want) || l != isLong || !ok {
		t.Errorf("%s: Peek(%x) = %x, %t, %t, want %x, %t, true", what, b, dst, l, ok, want, isLong)
	}
}

// peeksNothing fails the test, if something is peeked of bytes.
func peeksNothing(t *testing.T, what string, b []byte) {
	t.Helper()
	if dst, l, ok := header.Peek(b); len(dst) != 0 || l || ok {
		t.Errorf("%s: Peek(%x) = %x, %t, %t, want none, false, false", what, b, dst, l, ok)
	}
}

// P4.2

func TestParseOfExamples(t *testing.T) {
	for _, x := range examples {
		packet := join(x.b, text(200, x.h.Rest))
		parses(t, x.what, packet, x.h, len(x.b))
		if x.h.Long {
			parses(t, x.what+", others behind", join(packet, "others"), x.h, len(x.b))
			parses(t, x.what+", the same behind", join(packet, packet), x.h, len(x.b))
		}
	}
}

func TestAShortHeaderGoesToTheEnd(t *testing.T) {
	for cut := 1; cut <= 4; cut++ {
		h := api.Header{Phase: cut%2 == 0, Dst: text(1, 8), Cut: text(9, cut)}
		b := header.Put(h)
		for h.Rest = 0; h.Rest <= 1200; h.Rest++ {
			parses(t, "short", join(b, make([]byte, h.Rest)), h, 9+cut)
		}
		for _, rest := range []int{1201, 1202, 1300, 70000} {
			fails(t, "short, too much behind", join(b, make([]byte, rest)), api.ErrForm)
		}
	}
}

func TestHeadersThatAreCutOff(t *testing.T) {
	for _, x := range examples {
		for n := range x.b {
			fails(t, x.what+", cut off", x.b[:n], api.ErrShort)
		}
		for n := range x.h.Rest {
			b := join(x.b, make([]byte, n))
			if !x.h.Long {
				h := x.h
				h.Rest = n
				parses(t, x.what+", less behind", b, h, len(x.b))
				continue
			}
			fails(t, x.what+", Rest cut off", b, api.ErrShort)
		}
	}
	fails(t, "nil", nil, api.ErrShort)
	fails(t, "no byte", []byte{}, api.ErrShort)
}

func TestEachFirstByte(t *testing.T) {
	behindShort := join(text(1, 8), text(9, 4))
	behindLong := join(0, 0, 0, 1, 1, 7, 1, 8, 0, 4, text(9, 4))
	behindHandshake := join(0, 0, 0, 1, 1, 7, 1, 8, 4, text(9, 4))
	for first := range 256 {
		size := first%4 + 1
		switch first {
		case 0x40, 0x41, 0x42, 0x43, 0x44, 0x45, 0x46, 0x47:
			b := join(first, behindShort)
			parses(t, "short", b, api.Header{Phase: first >= 0x44, Dst: text(1, 8), Cut: text(9, size), Rest: 4 - size}, 9+size)
			fails(t, "short", b[:1], api.ErrShort)
		case 0xc0, 0xc1, 0xc2, 0xc3:
			b := join(first, behindLong)
			parses(t, "Initial", b, api.Header{Long: true, Version: 1, Dst: []byte{7}, Src: []byte{8}, Cut: text(9, size), Rest: 4 - size}, 11+size)
			fails(t, "Initial", b[:1], api.ErrShort)
		case 0xe0, 0xe1, 0xe2, 0xe3:
			b := join(first, behindHandshake)
			parses(t, "Handshake", b, api.Header{Long: true, Kind: api.Handshake, Version: 1, Dst: []byte{7}, Src: []byte{8}, Cut: text(9, size), Rest: 4 - size}, 10+size)
			fails(t, "Handshake", b[:1], api.ErrShort)
		default:
			// It is read ahead of all that isn't there.
			fails(t, "alone", []byte{byte(first)}, api.ErrForm)
			for _, behind := range [][]byte{behindShort, behindLong, behindHandshake} {
				for n := range len(behind) + 1 {
					fails(t, "a first byte that none has", join(first, behind[:n]), api.ErrForm)
				}
			}
		}
	}
}

func TestTheIntegerOfALongHeader(t *testing.T) {
	for _, first := range []int{0xc0, 0xe0} {
		ahead := []byte{0, 0, 0, 1, 0, 0}
		h := api.Header{Long: true, Version: 1}
		if first == 0xc0 {
			ahead = join(ahead, 0)
		} else {
			h.Kind = api.Handshake
		}
		for size := 1; size <= 4; size++ {
			ahead := join(first+size-1, ahead)
			for n := range size {
				for left := range size + 2 {
					// It tells fewer than Cut has, and may tell more than there are: that it tells fewer is named first.
					fails(t, "fewer than Cut has", join(ahead, n, make([]byte, left)), api.ErrForm)
				}
			}
			for n := size; n <= 63; n++ {
				h.Cut, h.Rest = text(9, size), n-size
				parses(t, "as many as there are", join(ahead, n, text(9, n)), h, len(ahead)+1+size)
				parses(t, "fewer than there are", join(ahead, n, text(9, n+5)), h, len(ahead)+1+size)
				fails(t, "one more than there are", join(ahead, n, text(9, n-1)), api.ErrShort)
				fails(t, "none there", join(ahead, n), api.ErrShort)
			}
			all := 1200 + size
			h.Cut, h.Rest = make([]byte, size), 1200
			parses(t, "Rest of 1200", join(ahead, varint.Put(uint64(all)), make([]byte, all)), h, len(ahead)+2+size)
			fails(t, "Rest of 1201", join(ahead, varint.Put(uint64(all+1)), make([]byte, all+1)), api.ErrForm)
			fails(t, "Rest of 1201, more behind", join(ahead, varint.Put(uint64(all+1)), make([]byte, all+99)), api.ErrForm)
			fails(t, "Rest of 1201, not all there", join(ahead, varint.Put(uint64(all+1)), make([]byte, all)), api.ErrShort)
			for _, n := range []uint64{1 << 14, 1<<32 + 1, 1<<32 + uint64(size), 1<<61 + uint64(size), math.MaxInt32, 1 << 31, 1<<31 + uint64(size), api.MaxInt - 1, api.MaxInt} {
				fails(t, "a great one", join(ahead, varint.Put(n), make([]byte, 20)), api.ErrShort)
			}
		}
	}
}

func TestIntegersInLongerBytes(t *testing.T) {
	for _, wideToken := range []int{1, 2, 4, 8} {
		for _, wide := range []int{1, 2, 4, 8} {
			h := api.Header{Long: true, Version: 2, Dst: []byte{1}, Token: []byte{2, 3}, Cut: []byte{4, 5}, Rest: 1}
			b := join(0xc1, 0, 0, 0, 2, 1, 1, 0, varint.Wide(2, wideToken), 2, 3, varint.Wide(3, wide), 4, 5)
			parses(t, "Initial", join(b, "xyz"), h, 14-2+wideToken+wide)
			for n := range len(b) + 1 {
				fails(t, "Initial, cut off", b[:n], api.ErrShort)
			}
			h.Token = nil
			b = join(0xc1, 0, 0, 0, 2, 1, 1, 0, varint.Wide(0, wideToken), varint.Wide(3, wide), 4, 5, 6)
			parses(t, "Initial, no Token", b, h, 12-2+wideToken+wide)
			fails(t, "Initial, fewer than Cut has", join(0xc1, 0, 0, 0, 2, 1, 1, 0, varint.Wide(0, wideToken), varint.Wide(1, wide), 4, 5, 6), api.ErrForm)
		}
		h := api.Header{Long: true, Kind: api.Handshake, Version: 2, Dst: []byte{1}, Cut: []byte{4, 5}, Rest: 1}
		b := join(0xe1, 0, 0, 0, 2, 1, 1, 0, varint.Wide(3, wideToken), 4, 5)
		parses(t, "Handshake", join(b, "x"), h, 10+wideToken)
		fails(t, "Handshake, Rest cut off", b, api.ErrShort)
	}
}

func TestPartsThatAreTooLong(t *testing.T) {
	for _, first := range []int{0xc0, 0xe0} {
		behind := []byte{1, 9}
		if first == 0xc0 {
			behind = []byte{0, 1, 9}
		}
		h := api.Header{Long: true, Kind: (first - 0xc0) / 16, Version: 1, Cut: []byte{9}}
		for n := range 256 {
			dst := join(first, 0, 0, 0, 1, n, text(1, n), 0, behind)
			src := join(first, 0, 0, 0, 1, 0, n, text(1, n), behind)
			if n <= 20 {
				parses(t, "Dst", dst, but(h, func(h *api.Header) { h.Dst = text(1, n) }), len(dst))
				parses(t, "Src", src, but(h, func(h *api.Header) { h.Src = text(1, n) }), len(src))
			} else {
				fails(t, "a long Dst", dst, api.ErrForm)
				fails(t, "a long Src", src, api.ErrForm)
			}
			// That a header isn't right is told where all of it is there.
			fails(t, "Dst, cut off", dst[:len(dst)-1], api.ErrShort)
			fails(t, "Src, cut off", src[:len(src)-1], api.ErrShort)
			if n > 0 {
				fails(t, "Dst itself, cut off", dst[:6+n-1], api.ErrShort)
				fails(t, "Src itself, cut off", src[:7+n-1], api.ErrShort)
			}
		}
	}
	for _, n := range []int{0, 1, 199, 200, 201, 202, 255, 256, 456, 2000} {
		b := join(0xc0, 0, 0, 0, 1, 0, 0, varint.Put(uint64(n)), text(1, n), 1, 9)
		if n <= 200 {
			parses(t, "Token", b, api.Header{Long: true, Version: 1, Token: text(1, n), Cut: []byte{9}}, len(b))
		} else {
			fails(t, "a long Token", b, api.ErrForm)
		}
		fails(t, "Token, cut off", b[:len(b)-1], api.ErrShort)
	}
	for _, n := range []uint64{1 << 14, 1 << 32, 1 << 61, api.MaxInt} {
		fails(t, "a Token that isn't there", join(0xc0, 0, 0, 0, 1, 0, 0, varint.Put(n), make([]byte, 99)), api.ErrShort)
	}
}

func TestAHandshakeHasNoTokensSize(t *testing.T) {
	// What would be an Initial's empty token is the integer that tells fewer bytes than Cut has.
	fails(t, "as an Initial", []byte{0xe0, 0, 0, 0, 1, 0, 0, 0, 1, 9}, api.ErrForm)
	// What would be an Initial's Token of 2 is Cut, and Rest.
	parses(t, "as an Initial", []byte{0xe0, 0, 0, 0, 1, 0, 0, 2, 5, 6, 1, 9}, api.Header{Long: true, Kind: api.Handshake, Version: 1, Cut: []byte{5}, Rest: 1}, 9)
}

// P4.3

func TestPeekOfExamples(t *testing.T) {
	for _, x := range examples {
		ahead := 1
		if x.h.Long {
			ahead = 6
		}
		whose := ahead + len(x.h.Dst)
		for n := range x.b {
			if n < whose {
				peeksNothing(t, x.what+", cut off", x.b[:n])
			} else {
				peeks(t, x.what+", cut off behind Dst", x.b[:n], x.h.Dst, x.h.Long)
			}
		}
		for _, behind := range [][]byte{nil, {0xff}, text(200, 2000)} {
			peeks(t, x.what, join(x.b, behind), x.h.Dst, x.h.Long)
			peeks(t, x.what+", others behind Dst", join(x.b[:whose], behind), x.h.Dst, x.h.Long)
		}
	}
	peeksNothing(t, "nil", nil)
	peeksNothing(t, "no byte", []byte{})
}

func TestPeekOfEachFirstByte(t *testing.T) {
	for first := range 256 {
		behindShort, behindLong := text(1, 8), join(0xff, 0xff, 0xff, 0xff, 3, 7, 8, 9)
		switch {
		case first&0x40 == 0:
			peeksNothing(t, "short", join(first, behindShort))
			peeksNothing(t, "long", join(first, behindLong))
			peeksNothing(t, "alone", []byte{byte(first)})
		case first < 0x80:
			peeks(t, "short", join(first, behindShort), behindShort, false)
			peeksNothing(t, "short, cut off", join(first, behindShort[:7]))
		default:
			peeks(t, "long", join(first, behindLong), []byte{7, 8, 9}, true)
			peeksNothing(t, "long, cut off", join(first, behindLong[:7]))
		}
	}
}

func TestPeekOfEachSizeOfDst(t *testing.T) {
	for _, first := range []int{0xc0, 0xd5, 0xe3, 0xff} {
		for n := range 256 {
			b := join(first, 1, 2, 3, 4, n, text(9, n))
			if n > 20 {
				peeksNothing(t, "a long Dst", b)
				peeksNothing(t, "a long Dst, others behind", join(b, make([]byte, 300)))
				continue
			}
			peeks(t, "Dst", b, text(9, n), true)
			peeks(t, "Dst, others behind", join(b, make([]byte, 300)), text(9, n), true)
			peeksNothing(t, "Dst, cut off", b[:len(b)-1])
		}
	}
}

func TestReadingNeitherChangesNorKeepsWhatIsHandedIn(t *testing.T) {
	for _, x := range examples {
		packet := join(x.b, text(200, x.h.Rest))
		b := join(packet, "spare room")[:len(packet)]
		before := bytes.Clone(b[:cap(b)])
		first, _, _ := header.Parse(b)
		second, n, e := header.Parse(b)
		dst, _, _ := header.Peek(b)
		peeked, isLong, ok := header.Peek(b)
		for _, l := range [][]byte{first.Dst, first.Src, first.Token, first.Cut, dst} {
			spoil(l)
		}
		if !bytes.Equal(b[:cap(b)], before) {
			t.Errorf("%s: what was handed in is changed", x.what)
		}
		spoil(b)
		if !header.Same(second, x.h) || n != len(x.b) || e != api.OK {
			t.Errorf("%s: a header hangs on what became of another one, or of what was handed in: %+v", x.what, second)
		}
		if !bytes.Equal(peeked, x.h.Dst) || isLong != x.h.Long || !ok {
			t.Errorf("%s: what is peeked hangs on what became of another one, or of what was handed in: %x", x.what, peeked)
		}
		for i, l := range []*[]byte{&second.Dst, &second.Src, &second.Token, &second.Cut} {
			spoil(*l)
			*l = [][]byte{x.h.Dst, x.h.Src, x.h.Token, x.h.Cut}[i]
			if !header.Same(second, x.h) {
				t.Errorf("%s: two lists of an answer share memory: %+v", x.what, second)
			}
		}
	}
}
