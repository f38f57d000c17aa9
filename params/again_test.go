package params_test

import (
	"bytes"
	"math/rand"
	"slices"
	"testing"

	"doorward/api"
	"doorward/params"
	"doorward/varint"
)

// P5.3

// drawn are parameters that may be, drawn by chance.
func drawn(r *rand.Rand) api.Params {
	var p api.Params
	for _, x := range places {
		if r.Intn(4) > 0 {
			*x.place(&p) = min(r.Uint64()>>(2+r.Intn(62)), x.most)
		}
	}
	if p.Has = r.Intn(2) == 0; p.Has && r.Intn(3) > 0 {
		r.Read(p.Token[:])
	}
	return p
}

// another is a parameter that nobody here knows, drawn by chance.
func another(r *rand.Rand) []byte {
	number := r.Uint64() >> (2 + r.Intn(62))
	switch number {
	case 1, 2, 4, 5, 8:
		number += 32
	}
	return said(number, text(byte(r.Intn(256)), r.Intn(70)))
}

// parted are the bytes of what was put, parameter by parameter.
func parted(t *testing.T, b []byte) [][]byte {
	t.Helper()
	var l [][]byte
	for len(b) > 0 {
		r := varint.Read(b)
		r.Int()
		r.Bytes(r.Int())
		if r.Bad() != api.OK {
			t.Fatalf("%x isn't put of parameters", b)
		}
		n := len(b) - r.Left()
		l, b = append(l, b[:n]), b[n:]
	}
	return l
}

// isReadAgain fails the test, if parameters that are put are read as others, alone or with others in between.
func isReadAgain(t *testing.T, p api.Params, r *rand.Rand) {
	t.Helper()
	b := params.Put(p)
	reads(t, "put", b, p)
	var between []byte
	for _, x := range parted(t, b) {
		between = join(between, another(r), x)
	}
	between = join(between, another(r))
	reads(t, "others in between", between, p)
	l := parted(t, between)
	r.Shuffle(len(l), func(i, j int) { l[i], l[j] = l[j], l[i] })
	reads(t, "in another order", slices.Concat(l...), p)
}

func TestWhatIsPutIsReadAgain(t *testing.T) {
	r := rand.New(rand.NewSource(5))
	for range 20000 {
		p := drawn(r)
		if !params.May(p) {
			t.Fatalf("%+v may not be", p)
		}
		isReadAgain(t, p, r)
	}
	for _, x := range examples {
		isReadAgain(t, x.p, r)
	}
}

func TestEachPowerIsReadAgain(t *testing.T) {
	r := rand.New(rand.NewSource(6))
	for _, x := range places {
		for i := range 63 {
			for _, n := range []uint64{1<<i - 1, 1 << i, 1<<i + 1} {
				var p api.Params
				if *x.place(&p) = n; n <= x.most {
					isReadAgain(t, p, r)
				} else {
					mayNot(t, x.what, p)
				}
			}
		}
	}
}

// What follows holds the calls against the chapter, said once more in another way.

// mayAgain is May, integer by integer.
func mayAgain(p api.Params) bool {
	for _, n := range []uint64{p.Idle, p.Data, p.Stream, p.Streams} {
		if n>>62 != 0 {
			return false
		}
	}
	return p.Streams < 1<<60+1 && (p.Has || bytes.Equal(p.Token[:], none))
}

// integerAgain is the integer that bytes begin with, and how many of them it has; 0 bytes, if it isn't there.
func integerAgain(b []byte) (n uint64, size int) {
	if len(b) == 0 || len(b) < 1<<(b[0]/64) {
		return 0, 0
	}
	size = 1 << (b[0] / 64)
	n = uint64(b[0] % 64)
	for _, x := range b[1:size] {
		n = n*256 + uint64(x)
	}
	return n, size
}

// readAgain is Read, each error told on the spot.
func readAgain(b []byte) (api.Params, api.Errno) {
	values := map[uint64][]byte{}
	integers := map[uint64]uint64{}
	for len(b) > 0 {
		number, size := integerAgain(b)
		if size == 0 {
			return api.Params{}, api.ErrShort
		}
		b = b[size:]
		count, size := integerAgain(b)
		if size == 0 || count > uint64(len(b)-size) {
			return api.Params{}, api.ErrShort
		}
		value := b[size : size+int(count)]
		b = b[size+int(count):]
		switch number {
		default:
			continue
		case 1, 2, 4, 5, 8:
		}
		if _, there := values[number]; there {
			return api.Params{}, api.ErrTwice
		}
		values[number] = value
		if number == 2 {
			if len(value) != 16 {
				return api.Params{}, api.ErrForm
			}
			continue
		}
		if integers[number], size = integerAgain(value); size == 0 || size != len(value) {
			return api.Params{}, api.ErrForm
		}
	}
	p := api.Params{Idle: integers[1], Data: integers[4], Stream: integers[5], Streams: integers[8]}
	if _, p.Has = values[2]; p.Has {
		copy(p.Token[:], values[2])
	}
	if !mayAgain(p) {
		return api.Params{}, api.ErrForm
	}
	return p, api.OK
}

// isAsSaidAgain fails the test, if bytes are told otherwise than by the chapter said once more.
func isAsSaidAgain(t *testing.T, b []byte) api.Errno {
	t.Helper()
	want, e := readAgain(b)
	if e != api.OK {
		fails(t, "said again", b, e)
		return e
	}
	reads(t, "said again", b, want)
	reads(t, "put again", params.Put(want), want)
	return e
}

// blurred are the bytes of parameters that something befell: often such as can't be read any more.
func blurred(r *rand.Rand, t *testing.T) []byte {
	l := parted(t, params.Put(drawn(r)))
	for range r.Intn(3) {
		l = append(l, another(r))
	}
	if len(l) > 0 && r.Intn(8) == 0 {
		l = append(l, l[r.Intn(len(l))])
	}
	r.Shuffle(len(l), func(i, j int) { l[i], l[j] = l[j], l[i] })
	b := slices.Concat(l...)
	if len(b) == 0 {
		return b
	}
	at := r.Intn(len(b))
	switch r.Intn(6) {
	case 0:
		return b[:at]
	case 1:
		b[at] = byte(r.Intn(256))
	case 2:
		b[at] ^= 1 << r.Intn(8)
	case 3:
		return join(b[:at], r.Intn(256), b[at:])
	}
	return b
}

func TestReadAsSaidAgain(t *testing.T) {
	r := rand.New(rand.NewSource(7))
	seen := map[api.Errno]int{}
	for range 60000 {
		seen[isAsSaidAgain(t, blurred(r, t))]++
	}
	for _, e := range []api.Errno{api.OK, api.ErrShort, api.ErrTwice, api.ErrForm} {
		if seen[e] < 1000 {
			t.Errorf("only %d of 60000 are told by %d", seen[e], e)
		}
	}
	small := []byte{0, 1, 1, 1, 2, 4, 5, 8, 16, 0x40, 0xc0}
	for range 60000 {
		b := make([]byte, r.Intn(14))
		for i := range b {
			b[i] = small[r.Intn(len(small))]
		}
		isAsSaidAgain(t, b)
	}
}

func FuzzRead(f *testing.F) {
	for _, x := range examples {
		f.Add(x.b)
		f.Add(join(x.b, x.b))
		f.Add(join(said(33, x.b), x.b))
	}
	f.Add(said(8, varint.Put(1<<60+1)))
	f.Fuzz(func(t *testing.T, b []byte) { isAsSaidAgain(t, b) })
}

func FuzzParams(f *testing.F) {
	for _, x := range examples {
		f.Add(x.p.Idle, x.p.Data, x.p.Stream, x.p.Streams, x.p.Has, x.p.Token[:])
	}
	f.Add(uint64(1<<62), uint64(0), uint64(0), uint64(1<<60+1), false, []byte{1})
	f.Fuzz(func(t *testing.T, idle, data, stream, streams uint64, has bool, token []byte) {
		p := api.Params{Idle: idle, Data: data, Stream: stream, Streams: streams, Has: has}
		copy(p.Token[:], token)
		if !mayAgain(p) {
			mayNot(t, "said again", p)
			return
		}
		if !params.May(p) {
			t.Errorf("%+v may not be", p)
		}
		isReadAgain(t, p, rand.New(rand.NewSource(int64(idle))))
		isIdle(t, idle, data, idleAgain(idle, data))
	})
}

// idleAgain is Idle, case by case.
func idleAgain(a, b uint64) uint64 {
	switch {
	case a == 0:
		return b
	case b == 0 || a < b:
		return a
	}
	return b
}
