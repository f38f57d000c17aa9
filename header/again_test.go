package header_test

import (
	"bytes"
	"math/rand"
	"testing"

	"doorward/api"
	"doorward/header"
	"doorward/varint"
)

// P4.4

// drawn is a right header, drawn by chance.
func drawn(r *rand.Rand) api.Header {
	some := func(most int) []byte {
		b := make([]byte, r.Intn(most+1))
		r.Read(b)
		return b
	}
	h := api.Header{Cut: some(3), Rest: r.Intn(1201)}
	h.Cut = append(h.Cut, byte(r.Intn(256)))
	if r.Intn(3) == 0 {
		h.Rest = r.Intn(3)
	}
	if r.Intn(3) == 0 {
		h.Phase, h.Dst = r.Intn(2) == 0, make([]byte, 8)
		r.Read(h.Dst)
		return h
	}
	h.Long, h.Version, h.Dst, h.Src = true, r.Uint32()>>r.Intn(32), some(20), some(20)
	if r.Intn(2) == 0 {
		h.Kind = api.Handshake
	} else {
		h.Token = some(200 >> r.Intn(8))
	}
	return h
}

// isToldAgain fails the test, if a right header isn't what its packet tells.
func isToldAgain(t *testing.T, h api.Header, fill byte, behind []byte) {
	t.Helper()
	b := header.Put(h)
	packet := join(b, bytes.Repeat([]byte{fill}, h.Rest))
	parses(t, "put", packet, h, len(b))
	peeks(t, "put", packet, h.Dst, h.Long)
	peeks(t, "put, nothing behind", b, h.Dst, h.Long)
	if h.Long {
		parses(t, "put, others behind", join(packet, behind), h, len(b))
	}
}

func TestWhatIsPutIsParsedAgain(t *testing.T) {
	r := rand.New(rand.NewSource(4))
	for range 20000 {
		h := drawn(r)
		if !header.Right(h) {
			t.Fatalf("%+v isn't right", h)
		}
		isToldAgain(t, h, byte(r.Intn(256)), header.Put(drawn(r)))
	}
	for _, x := range examples {
		for _, fill := range []byte{0, 0x40, 0xff} {
			isToldAgain(t, x.h, fill, x.b)
		}
	}
}

func TestEachSizeIsParsedAgain(t *testing.T) {
	for _, h := range []api.Header{short(), long(api.Initial), long(api.Handshake)} {
		for cut := 1; cut <= 4; cut++ {
			h.Cut = text(0xfe, cut)
			for h.Rest = 0; h.Rest <= 1200; h.Rest += 1 + h.Rest/70 {
				isToldAgain(t, h, 0, nil)
			}
			h.Rest = 1200
			isToldAgain(t, h, 0, nil)
		}
	}
	for n := range 201 {
		isToldAgain(t, but(long(api.Initial), func(h *api.Header) { h.Token = text(byte(n), n) }), 1, nil)
	}
	for dst := range 21 {
		for src := range 21 {
			change := func(h *api.Header) { h.Dst, h.Src = text(byte(src), dst), text(byte(dst), src) }
			isToldAgain(t, but(long(api.Initial), change), 1, nil)
			isToldAgain(t, but(long(api.Handshake), change), 1, nil)
		}
	}
}

func TestPacketsOneBehindTheOtherAreParsed(t *testing.T) {
	r := rand.New(rand.NewSource(5))
	for range 500 {
		var all []byte
		var want []api.Header
		for len(want) < 5 {
			h := drawn(r)
			if !h.Long && len(want) < 4 {
				continue
			}
			all, want = join(all, header.Put(h), make([]byte, h.Rest)), append(want, h)
		}
		for _, h := range want {
			got, n, e := header.Parse(all)
			if e != api.OK || !header.Same(got, h) {
				t.Fatalf("put was %+v, parsed was %+v, %d", h, got, e)
			}
			all = all[n+got.Rest:]
		}
		if len(all) != 0 {
			t.Fatalf("%d bytes are left", len(all))
		}
	}
}

// What follows holds the calls against the chapter, said once more in another way.

// isRightAgain is Right by one statement for each of the chapter's.
func isRightAgain(h api.Header) bool {
	within := func(n, least, most int) bool { return n >= least && n <= most }
	all := []bool{within(len(h.Cut), 1, 4), within(len(h.Dst), 0, 20), within(len(h.Src), 0, 20), within(h.Rest, 0, 1200)}
	if h.Long {
		all = append(all, h.Kind == 0 || h.Kind == 2, !h.Phase, within(len(h.Token), 0, 200), h.Kind == 0 || len(h.Token) == 0)
	} else {
		all = append(all, h.Kind == 0, h.Version == 0, len(h.Src) == 0, len(h.Token) == 0, len(h.Dst) == 8)
	}
	for _, holds := range all {
		if !holds {
			return false
		}
	}
	return true
}

// walk goes through bytes by their places.
type walk struct {
	b  []byte
	at int
}

// take is the next n bytes, and if they are there.
func (w *walk) take(n uint64) ([]byte, bool) {
	if n > uint64(len(w.b)-w.at) {
		return nil, false
	}
	w.at += int(n)
	return w.b[w.at-int(n) : w.at], true
}

// integer is the next one, and if it is there.
func (w *walk) integer() (n uint64, there bool) {
	first, there := w.take(1)
	if !there {
		return 0, false
	}
	others, there := w.take([]uint64{0, 1, 3, 7}[first[0]>>6])
	n = uint64(first[0] % 64)
	for _, x := range others {
		n = n*256 + uint64(x)
	}
	return n, there
}

// parsedAgain is Parse, each error told on the spot.
func parsedAgain(b []byte) (api.Header, int, api.Errno) {
	none := api.Header{}
	if len(b) == 0 {
		return none, 0, api.ErrShort
	}
	var h api.Header
	w, there := &walk{b: b, at: 1}, false
	size := b[0]%4 + 1
	switch b[0] - size + 1 {
	case 0x40, 0x44:
		h.Phase = b[0]&4 == 4
		if h.Dst, there = w.take(8); !there {
			return none, 0, api.ErrShort
		}
		if h.Cut, there = w.take(uint64(size)); !there {
			return none, 0, api.ErrShort
		}
		h.Rest = len(b) - w.at
	case 0xc0, 0xe0:
		h.Long = true
		h.Kind = int(b[0]-0xc0) >> 4
		version, there := w.take(4)
		if !there {
			return none, 0, api.ErrShort
		}
		for i, x := range version {
			h.Version += uint32(x) << (24 - 8*i)
		}
		for _, l := range []*[]byte{&h.Dst, &h.Src} {
			n, there := w.take(1)
			if !there {
				return none, 0, api.ErrShort
			}
			if *l, there = w.take(uint64(n[0])); !there {
				return none, 0, api.ErrShort
			}
		}
		if h.Kind == 0 {
			n, there := w.integer()
			if !there {
				return none, 0, api.ErrShort
			}
			if h.Token, there = w.take(n); !there {
				return none, 0, api.ErrShort
			}
		}
		n, there := w.integer()
		switch {
		case !there:
			return none, 0, api.ErrShort
		case n < uint64(size):
			return none, 0, api.ErrForm
		case n > uint64(len(b)-w.at):
			return none, 0, api.ErrShort
		}
		h.Cut, _ = w.take(uint64(size))
		h.Rest = int(n) - int(size)
	default:
		return none, 0, api.ErrForm
	}
	if !isRightAgain(h) {
		return none, 0, api.ErrForm
	}
	return h, w.at, api.OK
}

// peekedAgain is Peek, by places.
func peekedAgain(b []byte) ([]byte, bool, bool) {
	switch {
	case len(b) == 0 || b[0]>>6&1 == 0:
		return nil, false, false
	case b[0] < 0x80 && len(b) >= 9:
		return b[1:9], false, true
	case b[0] < 0x80 || len(b) < 6 || b[5] > 20 || len(b) < 6+int(b[5]):
		return nil, false, false
	}
	return b[6 : 6+int(b[5])], true, true
}

// isAsSaidAgain fails the test, if bytes are told otherwise than by the chapter said once more.
func isAsSaidAgain(t *testing.T, b []byte) api.Errno {
	t.Helper()
	want, size, e := parsedAgain(b)
	if e != api.OK {
		fails(t, "said again", b, e)
	} else {
		parses(t, "said again", b, want, size)
		again := join(header.Put(want), b[size:])
		h, n, e := header.Parse(again)
		if !header.Same(h, want) || n > size || e != api.OK {
			t.Errorf("what %x tells, put again, is told as %+v, %d, %d", b, h, n, e)
		}
	}
	if dst, isLong, ok := peekedAgain(b); ok {
		peeks(t, "said again", b, dst, isLong)
		if e == api.OK && !bytes.Equal(dst, want.Dst) {
			t.Errorf("another Dst is peeked of %x than is parsed", b)
		}
	} else {
		peeksNothing(t, "said again", b)
	}
	return e
}

// blurred is a packet that something befell: often none that is right any more.
func blurred(r *rand.Rand, h api.Header) []byte {
	b := join(header.Put(h), make([]byte, h.Rest))
	switch r.Intn(5) {
	case 0:
		b = b[:r.Intn(len(b)+1)]
	case 1:
		b[r.Intn(min(len(b), 60))] = byte(r.Intn(256))
	case 2:
		at := r.Intn(min(len(b), 60))
		b[at] ^= 1 << r.Intn(8)
	case 3:
		at := r.Intn(min(len(b), 60))
		b = join(b[:at], r.Intn(256), b[at:])
	case 4:
		b = join(b, make([]byte, r.Intn(20)))
	}
	return b
}

func TestParsedAsSaidAgain(t *testing.T) {
	r := rand.New(rand.NewSource(6))
	seen := map[api.Errno]int{}
	for range 60000 {
		h := drawn(r)
		h.Rest %= 30
		seen[isAsSaidAgain(t, blurred(r, h))]++
	}
	for _, e := range []api.Errno{api.OK, api.ErrShort, api.ErrForm} {
		if seen[e] < 1000 {
			t.Errorf("only %d of 60000 are told by %d", seen[e], e)
		}
	}
	small := []byte{0, 1, 2, 0x40, 0xc0}
	for range 60000 {
		b := []byte{byte(r.Intn(256))}
		for range r.Intn(14) {
			b = append(b, small[r.Intn(len(small))])
		}
		isAsSaidAgain(t, b)
	}
}

func FuzzParse(f *testing.F) {
	for _, x := range examples {
		f.Add(join(x.b, make([]byte, x.h.Rest)))
		f.Add(x.b[:len(x.b)-1])
	}
	f.Add(join(0xc1, 0, 0, 0, 2, 1, 1, 0, varint.Wide(2, 8), 2, 3, varint.Wide(3, 4), 4, 5, 6))
	f.Fuzz(func(t *testing.T, b []byte) { isAsSaidAgain(t, b) })
}

func FuzzHeader(f *testing.F) {
	for _, x := range examples {
		f.Add(x.h.Long, x.h.Phase, x.h.Kind, x.h.Version, x.h.Dst, x.h.Src, x.h.Token, x.h.Cut, x.h.Rest)
	}
	for _, x := range wrong {
		f.Add(x.h.Long, x.h.Phase, x.h.Kind, x.h.Version, x.h.Dst, x.h.Src, x.h.Token, x.h.Cut, x.h.Rest)
	}
	f.Fuzz(func(t *testing.T, isLong, phase bool, kind int, version uint32, dst, src, token, cut []byte, rest int) {
		h := api.Header{Long: isLong, Phase: phase, Kind: kind, Version: version, Dst: dst, Src: src, Token: token, Cut: cut, Rest: rest}
		if got := header.Right(h); got != isRightAgain(h) {
			t.Errorf("Right(%+v) = %t", h, got)
		}
		if !isRightAgain(h) {
			if b := header.Put(h); len(b) != 0 {
				t.Errorf("Put(%+v) = %x, want none", h, b)
			}
			return
		}
		isToldAgain(t, h, byte(rest), []byte("others"))
	})
}
