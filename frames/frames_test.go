package frames_test

import (
	"bytes"
	"math"
	"slices"
	"strings"
	"testing"

	"doorward/api"
	"doorward/frames"
	"doorward/varint"
)

// join is bytes one behind the other: of numbers, a byte each, of texts, and of bytes.
func join(parts ...any) []byte {
	var b []byte
	for _, p := range parts {
		switch x := p.(type) {
		case int:
			b = append(b, byte(x))
		case string:
			b = append(b, x...)
		case []byte:
			b = append(b, x...)
		}
	}
	return b
}

// many is so many bytes x.
func many(n int) []byte { return bytes.Repeat([]byte{'x'}, n) }

// greatest is MaxInt, as it is written.
const greatest = "\xff\xff\xff\xff\xff\xff\xff\xff"

// token is one of bytes that are all unlike.
var token = [16]byte{1, 2, 3, 4, 5, 6, 7, 8, 9, 10, 11, 12, 13, 14, 15, 16}

// sixteen are as many ranges as may be: 60 to 61, 56 to 57, and so on, down to 0 to 1.
func sixteen() []api.Range {
	var l []api.Range
	for lo := 60; lo >= 0; lo -= 4 {
		l = append(l, api.Range{Lo: uint64(lo), Hi: uint64(lo + 1)})
	}
	return l
}

// examples are right frames of every kind, and their bytes, written down apart from the program.
var examples = []struct {
	f api.Frame
	b []byte
}{
	{api.Frame{Kind: api.Padding, A: 1}, join(0)},
	{api.Frame{Kind: api.Padding, A: 2}, join(0, 0)},
	{api.Frame{Kind: api.Padding, A: 1200}, make([]byte, 1200)},
	{api.Frame{Kind: api.Ping}, join(1)},
	{api.Frame{Kind: api.Ack, Ranges: []api.Range{{Lo: 0, Hi: 0}}}, join(2, 0, 0, 0, 0)},
	{api.Frame{Kind: api.Ack, B: 300, Ranges: []api.Range{{Lo: 7, Hi: 7}}}, join(2, 7, 0x41, 0x2c, 0, 0)},
	{api.Frame{Kind: api.Ack, B: 5, Ranges: []api.Range{{Lo: 20, Hi: 30}, {Lo: 10, Hi: 18}, {Lo: 0, Hi: 3}}}, join(2, 30, 5, 2, 10, 0, 8, 5, 3)},
	{api.Frame{Kind: api.Ack, Ranges: sixteen()}, join(2, 61, 0, 15, 1, strings.Repeat("\x01\x01", 15))},
	{api.Frame{Kind: api.Ack, B: api.MaxInt, Ranges: []api.Range{{Lo: 0, Hi: api.MaxInt}}}, join(2, greatest, greatest, 0, greatest)},
	{api.Frame{Kind: api.Ack, Ranges: []api.Range{{Lo: api.MaxInt, Hi: api.MaxInt}, {Lo: 0, Hi: 0}}}, join(2, greatest, 0, 1, 0, "\xff\xff\xff\xff\xff\xff\xff\xfd", 0)},
	{api.Frame{Kind: api.Reset, Id: 4, Code: 64, A: 70}, join(4, 4, 0x40, 64, 0x40, 70)},
	{api.Frame{Kind: api.Stop, Id: 5, Code: 6}, join(5, 5, 6)},
	{api.Frame{Kind: api.Crypto}, join(6, 0, 0)},
	{api.Frame{Kind: api.Crypto, A: 7, Data: []byte("ab")}, join(6, 7, 2, "ab")},
	{api.Frame{Kind: api.Crypto, A: 64, Data: many(1200)}, join(6, 0x40, 64, 0x44, 0xb0, many(1200))},
	{api.Frame{Kind: api.NewToken, Data: []byte("t")}, join(7, 1, "t")},
	{api.Frame{Kind: api.NewToken, Data: many(1200)}, join(7, 0x44, 0xb0, many(1200))},
	{api.Frame{Kind: api.Stream}, join(0x0a, 0, 0)},
	{api.Frame{Kind: api.Stream, Flag: true}, join(0x0b, 0, 0)},
	{api.Frame{Kind: api.Stream, Id: 3, Data: []byte("abc")}, join(0x0a, 3, 3, "abc")},
	{api.Frame{Kind: api.Stream, Id: 3, Flag: true, Data: []byte("abc")}, join(0x0b, 3, 3, "abc")},
	{api.Frame{Kind: api.Stream, Id: 64, A: 5}, join(0x0e, 0x40, 64, 5, 0)},
	{api.Frame{Kind: api.Stream, Id: 3, A: 1, Flag: true, Data: many(64)}, join(0x0f, 3, 1, 0x40, 64, many(64))},
	{api.Frame{Kind: api.MaxData, A: 9}, join(0x10, 9)},
	{api.Frame{Kind: api.MaxData}, join(0x10, 0)},
	{api.Frame{Kind: api.MaxStreamData, Id: 1, A: 9}, join(0x11, 1, 9)},
	{api.Frame{Kind: api.MaxStreams, A: 9}, join(0x12, 9)},
	{api.Frame{Kind: api.MaxStreams, A: 1 << 60, Flag: true}, join(0x13, 0xd0, 0, 0, 0, 0, 0, 0, 0)},
	{api.Frame{Kind: api.Blocked, A: 9}, join(0x14, 9)},
	{api.Frame{Kind: api.StreamBlocked, Id: 2, A: 9}, join(0x15, 2, 9)},
	{api.Frame{Kind: api.StreamsFull, A: 1 << 60}, join(0x16, 0xd0, 0, 0, 0, 0, 0, 0, 0)},
	{api.Frame{Kind: api.StreamsFull, A: 9, Flag: true}, join(0x17, 9)},
	{api.Frame{Kind: api.NewCid, Data: []byte("i")}, join(0x18, 0, 0, 1, "i", make([]byte, 16))},
	{api.Frame{Kind: api.NewCid, Id: 2, A: 1, Data: []byte("cid"), Token: token}, join(0x18, 2, 1, 3, "cid", token[:])},
	{api.Frame{Kind: api.NewCid, Id: 64, A: 64, Data: many(20), Token: token}, join(0x18, 0x40, 64, 0x40, 64, 20, many(20), token[:])},
	{api.Frame{Kind: api.RetireCid, Id: 2}, join(0x19, 2)},
	{api.Frame{Kind: api.Challenge, Data: []byte("12345678")}, join(0x1a, "12345678")},
	{api.Frame{Kind: api.Response, Data: []byte("87654321")}, join(0x1b, "87654321")},
	{api.Frame{Kind: api.Close}, join(0x1c, 0, 0, 0)},
	{api.Frame{Kind: api.Close, Code: 10, A: 8, Data: []byte("why")}, join(0x1c, 10, 8, 3, "why")},
	{api.Frame{Kind: api.Close, Code: 64, Flag: true}, join(0x1d, 0x40, 64, 0)},
	{api.Frame{Kind: api.Close, Code: 10, Flag: true, Data: many(1200)}, join(0x1d, 10, 0x44, 0xb0, many(1200))},
	{api.Frame{Kind: api.Done}, join(0x1e)},
}

// fieldsOf are what frames of each kind have.
var fieldsOf = map[int]string{
	api.Padding: "A", api.Ping: "", api.Ack: "B Ranges", api.Reset: "Id A Code", api.Stop: "Id Code", api.Crypto: "A Data",
	api.NewToken: "Data", api.Stream: "Id A Flag Data", api.MaxData: "A", api.MaxStreamData: "Id A", api.MaxStreams: "A Flag",
	api.Blocked: "A", api.StreamBlocked: "Id A", api.StreamsFull: "A Flag", api.NewCid: "Id A Data Token", api.RetireCid: "Id",
	api.Challenge: "Data", api.Response: "Data", api.Close: "A Code Flag Data", api.Done: "",
}

// has tells if frames of a kind have a field.
func has(kind int, field string) bool {
	return slices.Contains(strings.Fields(fieldsOf[kind]), field)
}

// change makes each field of a frame another one.
var change = map[string]func(f *api.Frame){
	"Id":     func(f *api.Frame) { f.Id++ },
	"A":      func(f *api.Frame) { f.A++ },
	"B":      func(f *api.Frame) { f.B++ },
	"Code":   func(f *api.Frame) { f.Code++ },
	"Flag":   func(f *api.Frame) { f.Flag = !f.Flag },
	"Data":   func(f *api.Frame) { f.Data = append(bytes.Clone(f.Data), 0) },
	"Ranges": func(f *api.Frame) { f.Ranges = append(slices.Clone(f.Ranges), api.Range{}) },
	"Token":  func(f *api.Frame) { f.Token[15]++ },
}

// integers are the places of a frame's.
var integers = map[string]func(f *api.Frame) *uint64{
	"Id":   func(f *api.Frame) *uint64 { return &f.Id },
	"A":    func(f *api.Frame) *uint64 { return &f.A },
	"B":    func(f *api.Frame) *uint64 { return &f.B },
	"Code": func(f *api.Frame) *uint64 { return &f.Code },
}

// tooGreat are numbers that are no integers of layer 1.
var tooGreat = []uint64{api.MaxInt + 1, api.MaxInt + 2, 1 << 63, 1<<63 + 1, math.MaxUint64 - 1, math.MaxUint64}

// isRight fails the test, if a frame isn't right, or hasn't bytes that are read again as it is.
func isRight(t *testing.T, what string, f api.Frame) {
	t.Helper()
	if !frames.Right(f) {
		t.Errorf("%s: %+v isn't right", what, f)
	}
	b := frames.Put(f)
	if l, e := frames.Parse(b); e != api.OK || len(l) != 1 || !frames.Same(l[0], f) {
		t.Errorf("%s: %+v was put as %x, parsed was %+v, %d", what, f, b, l, e)
	}
}

// isWrong fails the test, if a frame is right, or has bytes.
func isWrong(t *testing.T, what string, f api.Frame) {
	t.Helper()
	if frames.Right(f) {
		t.Errorf("%s: %+v is right", what, f)
	}
	if b := frames.Put(f); len(b) != 0 {
		t.Errorf("%s: %+v was put as %x", what, f, b)
	}
}

// P3.1

func TestPutOfEachKind(t *testing.T) {
	seen := map[int]bool{}
	for _, x := range examples {
		seen[x.f.Kind] = true
		isRight(t, "an example", x.f)
		if got := frames.Put(x.f); !bytes.Equal(got, x.b) {
			t.Errorf("Put(%+v) = %x, want %x", x.f, got, x.b)
		}
	}
	if len(seen) != len(fieldsOf) || len(seen) != 20 {
		t.Errorf("there are examples of %d kinds, want 20", len(seen))
	}
}

func TestPutHasTheFewestBytesOfEachInteger(t *testing.T) {
	for _, n := range []uint64{0, 1, 63, 64, 16383, 16384, 1<<30 - 1, 1 << 30, api.MaxInt} {
		b := varint.Put(n)
		for _, x := range []struct {
			f    api.Frame
			want []byte
		}{
			{api.Frame{Kind: api.MaxData, A: n}, join(0x10, b)},
			{api.Frame{Kind: api.MaxStreamData, Id: n, A: n}, join(0x11, b, b)},
			{api.Frame{Kind: api.Reset, Id: n, Code: n, A: n}, join(4, b, b, b)},
			{api.Frame{Kind: api.Stop, Id: n, Code: n}, join(5, b, b)},
			{api.Frame{Kind: api.RetireCid, Id: n}, join(0x19, b)},
			{api.Frame{Kind: api.Crypto, A: n}, join(6, b, 0)},
			{api.Frame{Kind: api.Close, Code: n, A: n}, join(0x1c, b, b, 0)},
			{api.Frame{Kind: api.NewCid, Id: n, A: n, Data: []byte("c")}, join(0x18, b, b, 1, "c", make([]byte, 16))},
			{api.Frame{Kind: api.Ack, B: n, Ranges: []api.Range{{Lo: n, Hi: n}}}, join(2, b, b, 0, 0)},
			{api.Frame{Kind: api.Ack, B: n, Ranges: []api.Range{{Lo: 0, Hi: n}}}, join(2, b, b, 0, b)},
		} {
			isRight(t, "an integer", x.f)
			if got := frames.Put(x.f); !bytes.Equal(got, x.want) {
				t.Errorf("Put(%+v) = %x, want %x", x.f, got, x.want)
			}
		}
	}
}

func TestRightAtTheLimits(t *testing.T) {
	for _, x := range []struct {
		f    api.Frame
		want bool
	}{
		{api.Frame{Kind: api.Padding, A: 0}, false},
		{api.Frame{Kind: api.Padding, A: 1}, true},
		{api.Frame{Kind: api.Padding, A: 1199}, true},
		{api.Frame{Kind: api.Padding, A: 1200}, true},
		{api.Frame{Kind: api.Padding, A: 1201}, false},
		{api.Frame{Kind: api.Padding, A: 1<<32 + 1}, false},
		{api.Frame{Kind: api.Padding, A: api.MaxInt}, false},
		{api.Frame{Kind: api.Padding, A: math.MaxUint64}, false},
		{api.Frame{Kind: api.Crypto, Data: many(1200)}, true},
		{api.Frame{Kind: api.Crypto, Data: many(1201)}, false},
		{api.Frame{Kind: api.Crypto, A: api.MaxInt}, true},
		{api.Frame{Kind: api.Crypto, A: api.MaxInt, Data: many(1)}, false},
		{api.Frame{Kind: api.Crypto, A: api.MaxInt - 1, Data: many(1)}, true},
		{api.Frame{Kind: api.Crypto, A: api.MaxInt - 1200, Data: many(1200)}, true},
		{api.Frame{Kind: api.Crypto, A: api.MaxInt - 1199, Data: many(1200)}, false},
		{api.Frame{Kind: api.Crypto, A: math.MaxUint64, Data: many(1)}, false},
		{api.Frame{Kind: api.Crypto, A: math.MaxUint64, Data: many(2)}, false},
		{api.Frame{Kind: api.Stream, Data: many(1200)}, true},
		{api.Frame{Kind: api.Stream, Data: many(1201)}, false},
		{api.Frame{Kind: api.Stream, A: api.MaxInt, Flag: true}, true},
		{api.Frame{Kind: api.Stream, A: api.MaxInt, Data: many(1)}, false},
		{api.Frame{Kind: api.Stream, A: api.MaxInt - 1, Data: many(1)}, true},
		{api.Frame{Kind: api.Stream, A: api.MaxInt - 1200, Data: many(1200)}, true},
		{api.Frame{Kind: api.Stream, A: api.MaxInt - 1199, Data: many(1200)}, false},
		{api.Frame{Kind: api.Stream, A: math.MaxUint64, Data: many(1)}, false},
		{api.Frame{Kind: api.NewToken}, false},
		{api.Frame{Kind: api.NewToken, Data: []byte{}}, false},
		{api.Frame{Kind: api.NewToken, Data: []byte{0}}, true},
		{api.Frame{Kind: api.NewToken, Data: many(1200)}, true},
		{api.Frame{Kind: api.NewToken, Data: many(1201)}, false},
		{api.Frame{Kind: api.MaxStreams, A: 1 << 60}, true},
		{api.Frame{Kind: api.MaxStreams, A: 1<<60 + 1}, false},
		{api.Frame{Kind: api.MaxStreams, A: 1<<60 + 1, Flag: true}, false},
		{api.Frame{Kind: api.MaxStreams, A: api.MaxInt}, false},
		{api.Frame{Kind: api.StreamsFull, A: 1 << 60, Flag: true}, true},
		{api.Frame{Kind: api.StreamsFull, A: 1<<60 + 1}, false},
		{api.Frame{Kind: api.StreamsFull, A: 1<<60 + 1, Flag: true}, false},
		{api.Frame{Kind: api.NewCid, Id: 5, A: 5, Data: many(1)}, true},
		{api.Frame{Kind: api.NewCid, Id: 5, A: 6, Data: many(1)}, false},
		{api.Frame{Kind: api.NewCid, Id: 0, A: 1, Data: many(1)}, false},
		{api.Frame{Kind: api.NewCid, Id: api.MaxInt, A: api.MaxInt, Data: many(1)}, true},
		{api.Frame{Kind: api.NewCid, Id: 5}, false},
		{api.Frame{Kind: api.NewCid, Id: 5, Data: many(20)}, true},
		{api.Frame{Kind: api.NewCid, Id: 5, Data: many(21)}, false},
		{api.Frame{Kind: api.NewCid, Id: 5, Data: many(257)}, false},
		{api.Frame{Kind: api.Challenge}, false},
		{api.Frame{Kind: api.Challenge, Data: many(7)}, false},
		{api.Frame{Kind: api.Challenge, Data: many(8)}, true},
		{api.Frame{Kind: api.Challenge, Data: many(9)}, false},
		{api.Frame{Kind: api.Response}, false},
		{api.Frame{Kind: api.Response, Data: many(7)}, false},
		{api.Frame{Kind: api.Response, Data: many(8)}, true},
		{api.Frame{Kind: api.Response, Data: many(9)}, false},
		{api.Frame{Kind: api.Close, Code: 1, A: 2, Data: many(1200)}, true},
		{api.Frame{Kind: api.Close, Code: 1, A: 2, Data: many(1201)}, false},
		{api.Frame{Kind: api.Close, Code: 1, Flag: true, Data: many(1200)}, true},
		{api.Frame{Kind: api.Close, Code: 1, Flag: true, Data: many(1201)}, false},
		{api.Frame{Kind: api.Close, Code: 1, Flag: true, A: 1}, false},
		{api.Frame{Kind: api.Close, Code: 1, Flag: true, A: math.MaxUint64}, false},
	} {
		if x.want {
			isRight(t, "a limit", x.f)
		} else {
			isWrong(t, "a limit", x.f)
		}
	}
}

func TestRightOfEachIntegersGreatest(t *testing.T) {
	for _, x := range examples {
		for field, place := range integers {
			if !has(x.f.Kind, field) {
				continue
			}
			f := x.f
			for _, n := range tooGreat {
				*place(&f) = n
				isWrong(t, field+" that is too great", f)
			}
		}
	}
	for _, f := range []api.Frame{
		{Kind: api.Reset, Id: api.MaxInt, Code: api.MaxInt, A: api.MaxInt},
		{Kind: api.Stop, Id: api.MaxInt, Code: api.MaxInt},
		{Kind: api.Stream, Id: api.MaxInt, A: api.MaxInt - 1, Data: many(1)},
		{Kind: api.MaxData, A: api.MaxInt},
		{Kind: api.MaxStreamData, Id: api.MaxInt, A: api.MaxInt},
		{Kind: api.Blocked, A: api.MaxInt},
		{Kind: api.StreamBlocked, Id: api.MaxInt, A: api.MaxInt},
		{Kind: api.RetireCid, Id: api.MaxInt},
		{Kind: api.Close, Code: api.MaxInt, A: api.MaxInt},
		{Kind: api.Close, Code: api.MaxInt, Flag: true},
	} {
		isRight(t, "the greatest integers", f)
	}
}

func TestRightOfRanges(t *testing.T) {
	for _, x := range []struct {
		what string
		l    []api.Range
		want bool
	}{
		{"none", nil, false},
		{"none of an empty list", []api.Range{}, false},
		{"one number", []api.Range{{Lo: 5, Hi: 5}}, true},
		{"Lo above Hi", []api.Range{{Lo: 6, Hi: 5}}, false},
		{"a later one's Lo above Hi", []api.Range{{Lo: 20, Hi: 20}, {Lo: 6, Hi: 5}}, false},
		{"Lo far above Hi", []api.Range{{Lo: math.MaxUint64, Hi: 0}}, false},
		{"a number between", []api.Range{{Lo: 10, Hi: 12}, {Lo: 5, Hi: 8}}, true},
		{"they touch", []api.Range{{Lo: 10, Hi: 12}, {Lo: 5, Hi: 9}}, false},
		{"they meet", []api.Range{{Lo: 10, Hi: 12}, {Lo: 5, Hi: 10}}, false},
		{"they lie one over the other", []api.Range{{Lo: 10, Hi: 12}, {Lo: 5, Hi: 11}}, false},
		{"the same again", []api.Range{{Lo: 10, Hi: 12}, {Lo: 10, Hi: 12}}, false},
		{"they rise", []api.Range{{Lo: 1, Hi: 2}, {Lo: 10, Hi: 12}}, false},
		{"the last two touch", []api.Range{{Lo: 20, Hi: 22}, {Lo: 10, Hi: 12}, {Lo: 5, Hi: 9}}, false},
		{"down to 0", []api.Range{{Lo: 2, Hi: 2}, {Lo: 0, Hi: 0}}, true},
		{"behind 0", []api.Range{{Lo: 0, Hi: 2}, {Lo: 0, Hi: 0}}, false},
		{"behind 1", []api.Range{{Lo: 1, Hi: 2}, {Lo: 0, Hi: 0}}, false},
		{"behind 0, the greatest number", []api.Range{{Lo: 0, Hi: 2}, {Lo: 0, Hi: math.MaxUint64}}, false},
		{"behind 0, one less", []api.Range{{Lo: 0, Hi: 2}, {Lo: math.MaxUint64 - 1, Hi: math.MaxUint64 - 1}}, false},
		{"behind 1, the greatest number", []api.Range{{Lo: 1, Hi: 2}, {Lo: math.MaxUint64, Hi: math.MaxUint64}}, false},
		{"behind 5, the greatest number", []api.Range{{Lo: 5, Hi: 6}, {Lo: 0, Hi: math.MaxUint64}}, false},
		{"behind 5, one less", []api.Range{{Lo: 5, Hi: 6}, {Lo: 0, Hi: math.MaxUint64 - 1}}, false},
		{"up to MaxInt", []api.Range{{Lo: 0, Hi: api.MaxInt}}, true},
		{"above MaxInt", []api.Range{{Lo: 0, Hi: api.MaxInt + 1}}, false},
		{"only above MaxInt", []api.Range{{Lo: api.MaxInt + 1, Hi: api.MaxInt + 1}}, false},
		{"the greatest number", []api.Range{{Lo: math.MaxUint64, Hi: math.MaxUint64}}, false},
		{"sixteen", sixteen(), true},
		{"fifteen", sixteen()[1:], true},
		{"seventeen", append([]api.Range{{Lo: 100, Hi: 100}}, sixteen()...), false},
	} {
		f := api.Frame{Kind: api.Ack, Ranges: x.l}
		if x.want {
			isRight(t, x.what, f)
		} else {
			isWrong(t, x.what, f)
		}
	}
}

func TestWhatAKindDoesNotHaveIsWrong(t *testing.T) {
	for _, x := range examples {
		for field, other := range change {
			f := x.f
			other(&f)
			if !has(f.Kind, field) || f.Kind == api.Close && f.Flag && field == "A" {
				isWrong(t, field+" of a kind without", f)
			}
		}
	}
}

func TestEmptyListsAreNone(t *testing.T) {
	for _, x := range examples {
		f := x.f
		if f.Data == nil {
			f.Data = []byte{}
		}
		if f.Ranges == nil {
			f.Ranges = []api.Range{}
		}
		isRight(t, "empty lists", f)
		if !frames.Same(f, x.f) || !frames.Same(x.f, f) || !bytes.Equal(frames.Put(f), x.b) {
			t.Errorf("%+v isn't as with nil lists", f)
		}
	}
}

func TestWhatIsNoKind(t *testing.T) {
	kinds := []int{math.MinInt, math.MinInt32, -1 << 32, -256, -2, -1, 1 << 8, 1 << 16, 1 << 32, 1<<32 + 1, 1<<62 + 1, math.MaxInt32, math.MaxInt}
	for kind := range 300 {
		if _, known := fieldsOf[kind]; !known {
			kinds = append(kinds, kind)
		}
	}
	for _, kind := range kinds {
		isWrong(t, "no kind", api.Frame{Kind: kind})
		for _, x := range examples {
			f := x.f
			f.Kind = kind
			isWrong(t, "no kind", f)
		}
	}
}

func TestSame(t *testing.T) {
	all := []api.Frame{{}, {Kind: -1}, {Kind: 99, Id: 1, A: 2, B: 3, Code: 4, Flag: true, Data: []byte("d"), Ranges: []api.Range{{Lo: 5, Hi: 4}}, Token: token}}
	for _, x := range examples {
		all = append(all, x.f)
	}
	for i, f := range all {
		for k, other := range all {
			if frames.Same(f, other) != (i == k) {
				t.Errorf("Same(%+v, %+v) = %t", f, other, i != k)
			}
		}
		copied := f
		copied.Data, copied.Ranges = bytes.Clone(f.Data), slices.Clone(f.Ranges)
		if !frames.Same(f, copied) {
			t.Errorf("%+v isn't the same as its copy", f)
		}
	}
}

func TestSameLooksAtAllOfAFrame(t *testing.T) {
	full := api.Frame{Kind: 99, Id: 1, A: 2, B: 3, Code: 4, Flag: true, Data: []byte("data"), Ranges: []api.Range{{Lo: 4, Hi: 5}, {Lo: 1, Hi: 2}}, Token: token}
	differs := func(what string, turn func(f *api.Frame)) {
		t.Helper()
		f := full
		f.Data, f.Ranges = bytes.Clone(full.Data), slices.Clone(full.Ranges)
		turn(&f)
		if frames.Same(f, full) || frames.Same(full, f) {
			t.Errorf("the same, but for %s: %+v, %+v", what, f, full)
		}
	}
	for field, other := range change {
		differs(field, other)
	}
	differs("Kind", func(f *api.Frame) { f.Kind = -99 })
	differs("a high bit", func(f *api.Frame) { f.Id += 1 << 63 })
	differs("a byte", func(f *api.Frame) { f.Data[3]++ })
	differs("fewer bytes", func(f *api.Frame) { f.Data = f.Data[:3] })
	differs("no bytes", func(f *api.Frame) { f.Data = nil })
	differs("a range's Lo", func(f *api.Frame) { f.Ranges[1].Lo = 0 })
	differs("a range's Hi", func(f *api.Frame) { f.Ranges[1].Hi = 3 })
	differs("fewer ranges", func(f *api.Frame) { f.Ranges = f.Ranges[:1] })
	differs("ranges in another order", func(f *api.Frame) { slices.Reverse(f.Ranges) })
	differs("no ranges", func(f *api.Frame) { f.Ranges = nil })
	for i := range token {
		differs("a byte of the token", func(f *api.Frame) { f.Token[i]++ })
	}
}

func TestEliciting(t *testing.T) {
	for kind := -2; kind < 70; kind++ {
		want := kind != api.Padding && kind != api.Ack && kind != api.Close
		for _, f := range []api.Frame{{Kind: kind}, {Kind: kind, Id: 1, A: 1, B: 1, Code: 1, Flag: true, Data: many(9), Ranges: sixteen(), Token: token}} {
			if frames.Eliciting(f) != want {
				t.Errorf("Eliciting of the kind %d = %t", kind, !want)
			}
		}
	}
	for _, x := range examples {
		want := x.f.Kind != api.Padding && x.f.Kind != api.Ack && x.f.Kind != api.Close
		if frames.Eliciting(x.f) != want {
			t.Errorf("Eliciting(%+v) = %t", x.f, !want)
		}
	}
}

// spoil writes to all of a slice's memory, its spare room included.
func spoil(b []byte) {
	b = b[:cap(b)]
	for i := range b {
		b[i] ^= 0xa5
	}
}

func TestPutAnswersNewMemory(t *testing.T) {
	for _, x := range examples {
		memory := append(bytes.Clone(x.f.Data), "spare room"...)
		want := bytes.Clone(memory)
		ranges := append(slices.Clone(x.f.Ranges), api.Range{Lo: 1, Hi: 1})
		f := x.f
		f.Data, f.Ranges = memory[:len(f.Data)], ranges[:len(f.Ranges)]
		first, second := frames.Put(f), frames.Put(f)
		spoil(first)
		if !bytes.Equal(second, x.b) || !bytes.Equal(frames.Put(f), x.b) {
			t.Errorf("%+v: an answer hangs on what became of another one", x.f)
		}
		frames.Right(f)
		frames.Same(f, x.f)
		if !bytes.Equal(memory, want) || !slices.Equal(ranges[:len(f.Ranges)], x.f.Ranges) || ranges[len(f.Ranges)] != (api.Range{Lo: 1, Hi: 1}) {
			t.Errorf("%+v: what was handed in was changed", x.f)
		}
	}
}
