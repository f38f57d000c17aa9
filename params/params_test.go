package params_test

import (
	"bytes"
	"math"
	"testing"

	"doorward/api"
	"doorward/params"
	"doorward/varint"
)

// text is so many bytes from a first one on, each one more than the one ahead.
func text(first byte, n int) []byte {
	b := make([]byte, n)
	for i := range b {
		b[i] = first + byte(i)
	}
	return b
}

// join is bytes, single ones and texts, one behind the other.
func join(parts ...any) []byte {
	var b []byte
	for _, p := range parts {
		switch p := p.(type) {
		case int:
			b = append(b, byte(p))
		case string:
			b = append(b, p...)
		case []byte:
			b = append(b, p...)
		}
	}
	return b
}

// said is a parameter's bytes: its number, how many bytes its value has, and that.
func said(number uint64, value ...any) []byte {
	b := join(value...)
	return join(varint.Put(number), varint.Put(uint64(len(b))), b)
}

// token is one that isn't all 0.
var token = [16]byte(text(1, 16))

// none is sixteen bytes 0.
var none = make([]byte, 16)

// whole has all parameters there are.
var whole = api.Params{Idle: 300, Data: 70, Stream: 5, Streams: 2, Has: true, Token: token}

// examples are parameters that may be, and their bytes, written by hand.
var examples = []struct {
	what string
	p    api.Params
	b    []byte
}{
	{"the document's", api.Params{Idle: 5}, []byte{1, 1, 5}},
	{"none", api.Params{}, nil},
	{"all", whole, join(1, 2, 0x41, 0x2c, 2, 16, text(1, 16), 4, 2, 0x40, 70, 5, 1, 5, 8, 1, 2)},
	{"Data alone", api.Params{Data: 5}, []byte{4, 1, 5}},
	{"Stream alone", api.Params{Stream: 5}, []byte{5, 1, 5}},
	{"Streams alone", api.Params{Streams: 5}, []byte{8, 1, 5}},
	{"a Token alone", api.Params{Has: true, Token: token}, join(2, 16, text(1, 16))},
	{"a Token of 0 alone", api.Params{Has: true}, join(2, 16, none)},
	{"a Token whose last byte isn't 0", api.Params{Has: true, Token: [16]byte{15: 1}}, join(2, 16, none[1:], 1)},
	{"a Token of 255", api.Params{Has: true, Token: [16]byte(bytes.Repeat([]byte{255}, 16))}, join(2, 16, bytes.Repeat([]byte{255}, 16))},
	{"Idle of 1", api.Params{Idle: 1}, []byte{1, 1, 1}},
	{"Idle of 63", api.Params{Idle: 63}, []byte{1, 1, 63}},
	{"Idle of 64", api.Params{Idle: 64}, []byte{1, 2, 0x40, 64}},
	{"Data of 2^14 less 1", api.Params{Data: 1<<14 - 1}, []byte{4, 2, 0x7f, 0xff}},
	{"Data of 2^14", api.Params{Data: 1 << 14}, []byte{4, 4, 0x80, 0, 0x40, 0}},
	{"Stream of 2^30 less 1", api.Params{Stream: 1<<30 - 1}, []byte{5, 4, 0xbf, 0xff, 0xff, 0xff}},
	{"Stream of 2^30", api.Params{Stream: 1 << 30}, []byte{5, 8, 0xc0, 0, 0, 0, 0x40, 0, 0, 0}},
	{"Idle of MaxInt", api.Params{Idle: api.MaxInt}, join(1, 8, bytes.Repeat([]byte{255}, 8))},
	{"Data of MaxInt", api.Params{Data: api.MaxInt}, join(4, 8, bytes.Repeat([]byte{255}, 8))},
	{"Stream of MaxInt", api.Params{Stream: api.MaxInt}, join(5, 8, bytes.Repeat([]byte{255}, 8))},
	{"Streams of 2^60", api.Params{Streams: 1 << 60}, []byte{8, 8, 0xd0, 0, 0, 0, 0, 0, 0, 0}},
	{"Streams of 2^60 less 1", api.Params{Streams: 1<<60 - 1}, []byte{8, 8, 0xcf, 255, 255, 255, 255, 255, 255, 255}},
	{"the greatest ones", api.Params{Idle: api.MaxInt, Data: api.MaxInt, Stream: api.MaxInt, Streams: 1 << 60}, join(
		1, 8, bytes.Repeat([]byte{255}, 8), 4, 8, bytes.Repeat([]byte{255}, 8), 5, 8, bytes.Repeat([]byte{255}, 8), 8, 8, 0xd0, 0, 0, 0, 0, 0, 0, 0)},
	{"Idle and Streams", api.Params{Idle: 7, Streams: 9}, []byte{1, 1, 7, 8, 1, 9}},
	{"Data, and a Token of 0", api.Params{Data: 7, Has: true}, join(2, 16, none, 4, 1, 7)},
}

// P5.1

func TestMayAndPutOfExamples(t *testing.T) {
	for _, x := range examples {
		if !params.May(x.p) {
			t.Errorf("%s: %+v may not be", x.what, x.p)
		}
		if got := params.Put(x.p); !bytes.Equal(got, x.b) {
			t.Errorf("%s: Put(%+v) = %x, want %x", x.what, x.p, got, x.b)
		}
	}
}

// mayNot fails the test, if parameters may be, or have bytes.
func mayNot(t *testing.T, what string, p api.Params) {
	t.Helper()
	if params.May(p) {
		t.Errorf("%s: %+v may be", what, p)
	}
	if got := params.Put(p); len(got) != 0 {
		t.Errorf("%s: Put(%+v) = %x, want none", what, p, got)
	}
}

// places are the integers' ones, with their names, numbers, and greatest values.
var places = []struct {
	what   string
	number uint64
	most   uint64
	place  func(p *api.Params) *uint64
}{
	{"Idle", 1, api.MaxInt, func(p *api.Params) *uint64 { return &p.Idle }},
	{"Data", 4, api.MaxInt, func(p *api.Params) *uint64 { return &p.Data }},
	{"Stream", 5, api.MaxInt, func(p *api.Params) *uint64 { return &p.Stream }},
	{"Streams", 8, 1 << 60, func(p *api.Params) *uint64 { return &p.Streams }},
}

func TestIntegersThatMayBe(t *testing.T) {
	for _, x := range places {
		for _, p := range []api.Params{{}, whole, {Has: true}} {
			for _, n := range []uint64{0, 1, x.most - 1, x.most} {
				if *x.place(&p) = n; !params.May(p) {
					t.Errorf("%s: %+v may not be", x.what, p)
				}
			}
			for _, n := range []uint64{x.most + 1, x.most + 2, 1 << 62, 1<<62 + 5, 1 << 63, math.MaxUint64} {
				*x.place(&p) = n
				mayNot(t, x.what, p)
			}
		}
	}
	mayNot(t, "Streams of MaxInt", api.Params{Streams: api.MaxInt})
}

func TestATokenWithoutHas(t *testing.T) {
	for i := range 16 {
		for _, x := range []byte{1, 2, 128, 255} {
			p := whole
			p.Token = [16]byte{}
			p.Token[i] = x
			if !params.May(p) {
				t.Errorf("%+v may not be", p)
			}
			p.Has = false
			mayNot(t, "a Token that isn't had", p)
			mayNot(t, "that alone", api.Params{Token: p.Token})
		}
	}
	mayNot(t, "a whole Token that isn't had", api.Params{Token: token})
	p := whole
	p.Has, p.Token = false, [16]byte{}
	if b := params.Put(p); !params.May(p) || !bytes.Equal(b, join(1, 2, 0x41, 0x2c, 4, 2, 0x40, 70, 5, 1, 5, 8, 1, 2)) {
		t.Errorf("without a Token: %x", b)
	}
}

func TestPutAnswersNewMemory(t *testing.T) {
	for _, x := range examples {
		first, second := params.Put(x.p), params.Put(x.p)
		spoil(first)
		if !bytes.Equal(second, x.b) || !bytes.Equal(params.Put(x.p), x.b) {
			t.Errorf("%s: an answer hangs on what became of another one", x.what)
		}
	}
}

// spoil writes to all of a slice's memory, its spare room included.
func spoil(b []byte) {
	b = b[:cap(b)]
	for i := range b {
		b[i] ^= 0xa5
	}
}

func TestIdle(t *testing.T) {
	for _, x := range []struct{ a, b, want uint64 }{
		{0, 0, 0},
		{0, 1, 1},
		{0, 7, 7},
		{1, 1, 1},
		{1, 2, 1},
		{7, 7, 7},
		{7, 9, 7},
		{0, api.MaxInt, api.MaxInt},
		{1, api.MaxInt, 1},
		{api.MaxInt - 1, api.MaxInt, api.MaxInt - 1},
		{api.MaxInt, api.MaxInt, api.MaxInt},
		{api.MaxInt, api.MaxInt + 1, api.MaxInt},
		{0, math.MaxUint64, math.MaxUint64},
		{1, math.MaxUint64, 1},
		{1 << 63, math.MaxUint64, 1 << 63},
		{math.MaxUint64, math.MaxUint64, math.MaxUint64},
		{1<<63 - 1, 1 << 63, 1<<63 - 1},
		{1 << 32, 1<<32 + 1, 1 << 32},
		{2, 1 << 32, 2},
	} {
		isIdle(t, x.a, x.b, x.want)
	}
}

// isIdle fails the test, if two endpoints go by other idle ticks, one way or the other.
func isIdle(t *testing.T, a, b, want uint64) {
	t.Helper()
	if one, other := params.Idle(a, b), params.Idle(b, a); one != want || other != want {
		t.Errorf("Idle of %d and %d is %d, and the other way %d, want %d", a, b, one, other, want)
	}
}

func TestIdleOfEveryTwo(t *testing.T) {
	for a := range uint64(70) {
		isIdle(t, a, 0, a)
		for b := a; b < 70; b++ {
			if a > 0 {
				isIdle(t, a, b, a)
			}
		}
	}
}
