package frames_test

import (
	"bytes"
	"math/rand"
	"slices"
	"testing"

	"doorward/api"
	"doorward/frames"
	"doorward/varint"
)

// P3.3

// drawn is a right frame of a kind, drawn by chance.
func drawn(r *rand.Rand, kind int) api.Frame {
	f := api.Frame{Kind: kind}
	f.Id, f.A, f.B, f.Code, f.Flag = number(r), number(r), number(r), number(r), r.Intn(2) == 0
	f.Data = text(r, 0, 1200)
	switch kind {
	case api.Padding:
		f.A = 1 + f.A%1200
	case api.Ack:
		f.Ranges = ranges(r)
	case api.Crypto, api.Stream:
		f.A = min(f.A, api.MaxInt-uint64(len(f.Data)))
	case api.NewToken:
		f.Data = text(r, 1, 1200)
	case api.MaxStreams, api.StreamsFull:
		f.A %= 1<<60 + 1
	case api.NewCid:
		f.A = min(f.A, f.Id)
		f.Data = text(r, 1, 20)
		r.Read(f.Token[:])
	case api.Challenge, api.Response:
		f.Data = text(r, 8, 8)
	case api.Close:
		if f.Flag {
			f.A = 0
		}
	}
	return bare(f)
}

// bare is a frame with nothing but what its kind has.
func bare(f api.Frame) api.Frame {
	all := f
	f = api.Frame{Kind: all.Kind}
	for field, set := range map[string]func(){
		"Id":     func() { f.Id = all.Id },
		"A":      func() { f.A = all.A },
		"B":      func() { f.B = all.B },
		"Code":   func() { f.Code = all.Code },
		"Flag":   func() { f.Flag = all.Flag },
		"Data":   func() { f.Data = all.Data },
		"Ranges": func() { f.Ranges = all.Ranges },
		"Token":  func() { f.Token = all.Token },
	} {
		if has(f.Kind, field) {
			set()
		}
	}
	return f
}

// number is an integer of any length.
func number(r *rand.Rand) uint64 { return r.Uint64() >> (2 + r.Intn(62)) }

// text is so many bytes, from the least to the most; not often many.
func text(r *rand.Rand, least, most int) []byte {
	if r.Intn(8) > 0 {
		most = min(most, least+9)
	}
	b := make([]byte, least+r.Intn(most-least+1))
	r.Read(b)
	return b
}

// ranges are such as may be acked.
func ranges(r *rand.Rand) []api.Range {
	var l []api.Range
	for hi := number(r); len(l) < 1+r.Intn(16); {
		lo := hi - min(hi, number(r)>>r.Intn(20))
		l = append(l, api.Range{Lo: lo, Hi: hi})
		gap := 2 + number(r)>>r.Intn(20)
		if gap > lo {
			break
		}
		hi = lo - gap
	}
	return l
}

func TestWhatIsPutIsParsedAgain(t *testing.T) {
	r := rand.New(rand.NewSource(3))
	for range 2000 {
		var b []byte
		var want []api.Frame
		for range 1 + r.Intn(64) {
			f := drawn(r, r.Intn(0x1f))
			if _, known := fieldsOf[f.Kind]; !known || f.Kind == api.Padding && len(want) > 0 && want[len(want)-1].Kind == api.Padding {
				// Two paddings, one behind the other, are one that is longer.
				f = api.Frame{Kind: api.Ping}
			}
			if !frames.Right(f) {
				t.Fatalf("%+v isn't right", f)
			}
			b, want = append(b, frames.Put(f)...), append(want, f)
		}
		l, e := frames.Parse(b)
		if e != api.OK || !slices.EqualFunc(l, want, frames.Same) {
			t.Fatalf("put was %+v, parsed was %+v, %d", want, l, e)
		}
		reader := varint.Read(b)
		for i, f := range want {
			if got := frames.Next(reader); !frames.Same(got, f) {
				t.Fatalf("frame %d: put was %+v, read was %+v", i, f, got)
			}
		}
		if reader.Left() != 0 || reader.Bad() != api.OK {
			t.Fatalf("%d left, bad by %d behind all that was put", reader.Left(), reader.Bad())
		}
	}
}

func TestEachKindIsParsedAgain(t *testing.T) {
	r := rand.New(rand.NewSource(4))
	for kind := range fieldsOf {
		for range 300 {
			isRight(t, "drawn", drawn(r, kind))
		}
	}
}

func TestPaddingsOneBehindTheOtherAreOne(t *testing.T) {
	for _, x := range []struct{ a, b uint64 }{{1, 1}, {5, 7}, {1199, 1}, {1, 1199}, {1200, 1}, {1200, 1200}} {
		l, e := frames.Parse(join(frames.Put(api.Frame{Kind: api.Padding, A: x.a}), frames.Put(api.Frame{Kind: api.Padding, A: x.b})))
		var sum uint64
		for _, f := range l {
			sum += f.A
		}
		if e != api.OK || sum != x.a+x.b || len(l) != int(x.a+x.b+1199)/1200 {
			t.Errorf("paddings of %d and %d: parsed was %+v, %d", x.a, x.b, l, e)
		}
	}
}

// What follows is the chapter said once more, in another way than the program does: what is read is held against it.

// slow reads bytes, and throws what is wrong as a panic.
type slow struct{ b []byte }

func (s *slow) take(n uint64) []byte {
	if n > uint64(len(s.b)) {
		panic(api.ErrShort)
	}
	b := s.b[:n]
	s.b = s.b[n:]
	return b
}

func (s *slow) int() uint64 {
	first := s.take(1)[0]
	n := uint64(first % 64)
	for _, b := range s.take(1<<(first/64) - 1) {
		n = n*256 + uint64(b)
	}
	return n
}

func (s *slow) ints(at ...*uint64) {
	for _, n := range at {
		*n = s.int()
	}
}

func (s *slow) ack(f *api.Frame) {
	hi := int64(s.int())
	f.B = s.int()
	more, length := s.int(), int64(s.int())
	if more > 15 {
		panic(api.ErrForm)
	}
	for {
		if hi < 0 || hi-length < 0 {
			panic(api.ErrForm)
		}
		f.Ranges = append(f.Ranges, api.Range{Lo: uint64(hi - length), Hi: uint64(hi)})
		if more--; more+1 == 0 {
			return
		}
		hi = hi - length - int64(s.int()) - 2
		length = int64(s.int())
	}
}

func (s *slow) frame() api.Frame {
	t := s.int()
	f := api.Frame{Kind: int(t)}
	switch t {
	case 0:
		for f.A = 1; f.A < 1200 && len(s.b) > 0 && s.b[0] == 0; f.A++ {
			s.take(1)
		}
	case 1, 30:
	case 2:
		s.ack(&f)
	case 3:
		f.Kind = 2
		s.ack(&f)
		s.ints(new(uint64), new(uint64), new(uint64))
	case 4:
		s.ints(&f.Id, &f.Code, &f.A)
	case 5:
		s.ints(&f.Id, &f.Code)
	case 6:
		s.ints(&f.A)
		f.Data = s.take(s.int())
	case 7:
		f.Data = s.take(s.int())
	case 8, 9, 10, 11, 12, 13, 14, 15:
		f.Kind, f.Flag = 8, t%2 == 1
		f.Id = s.int()
		if t >= 12 {
			f.A = s.int()
		}
		if t%4 >= 2 {
			f.Data = s.take(s.int())
		} else {
			f.Data = s.take(uint64(len(s.b)))
		}
	case 16, 18, 20, 22:
		s.ints(&f.A)
	case 19, 23:
		f.Kind, f.Flag = int(t-1), true
		s.ints(&f.A)
	case 17, 21:
		s.ints(&f.Id, &f.A)
	case 24:
		s.ints(&f.Id, &f.A)
		f.Data = s.take(uint64(s.take(1)[0]))
		f.Token = [16]byte(s.take(16))
	case 25:
		s.ints(&f.Id)
	case 26, 27:
		f.Data = s.take(8)
	case 28:
		s.ints(&f.Code, &f.A)
		f.Data = s.take(s.int())
	case 29:
		f.Kind, f.Flag = 28, true
		s.ints(&f.Code)
		f.Data = s.take(s.int())
	default:
		panic(api.ErrForm)
	}
	if !slowlyRight(f) {
		panic(api.ErrForm)
	}
	return f
}

// slowlyRight tells if a frame is right.
func slowlyRight(f api.Frame) bool {
	n := uint64(len(f.Data))
	if _, known := fieldsOf[f.Kind]; !known || !frames.Same(f, bare(f)) || f.Id > api.MaxInt || f.A > api.MaxInt || f.B > api.MaxInt || f.Code > api.MaxInt {
		return false
	}
	switch f.Kind {
	case api.Padding:
		return f.A > 0 && f.A <= 1200
	case api.Ack:
		// Above all of them no number may be, so a range that ends two below that would be the first one.
		above := int64(api.MaxInt + 2)
		for _, x := range f.Ranges {
			if x.Hi > api.MaxInt || x.Lo > x.Hi || int64(x.Hi) > above-2 {
				return false
			}
			above = int64(x.Lo)
		}
		return len(f.Ranges) > 0 && len(f.Ranges) <= 16
	case api.Crypto, api.Stream:
		return n <= 1200 && f.A+n <= api.MaxInt
	case api.NewToken:
		return n > 0 && n <= 1200
	case api.MaxStreams, api.StreamsFull:
		return f.A <= 1<<60
	case api.NewCid:
		return f.A <= f.Id && n > 0 && n <= 20
	case api.Challenge, api.Response:
		return n == 8
	case api.Close:
		return n <= 1200 && !(f.Flag && f.A != 0)
	}
	return true
}

// slowlyParsed is all frames of bytes.
func slowlyParsed(b []byte) (l []api.Frame, e api.Errno) {
	defer func() {
		if thrown := recover(); thrown != nil {
			l, e = nil, thrown.(api.Errno)
		}
	}()
	s := &slow{b}
	for len(s.b) > 0 {
		l = append(l, s.frame())
	}
	if len(l) == 0 || len(l) > 64 {
		return nil, api.ErrForm
	}
	return l, api.OK
}

// asTold fails the test, if bytes aren't parsed as the chapter says, or a frame of theirs isn't put, and parsed again.
func asTold(t *testing.T, b []byte) {
	t.Helper()
	want, bad := slowlyParsed(b)
	l, e := frames.Parse(b)
	if e != bad || !slices.EqualFunc(l, want, frames.Same) {
		t.Fatalf("Parse of %x = %+v, %d, want %+v, %d", b, l, e, want, bad)
	}
	for _, f := range l {
		isRight(t, "parsed", f)
	}
}

func TestParseOfBytesThatAreChanged(t *testing.T) {
	r := rand.New(rand.NewSource(5))
	kinds := []int{}
	for kind := range 0x1f {
		if _, known := fieldsOf[kind]; known {
			kinds = append(kinds, kind)
		}
	}
	for range 20000 {
		var b []byte
		for range 1 + r.Intn(4) {
			b = append(b, frames.Put(drawn(r, kinds[r.Intn(len(kinds))]))...)
		}
		for range r.Intn(4) {
			at := min(r.Intn(len(b)), r.Intn(len(b)), r.Intn(len(b)))
			b[at] = byte(r.Intn(256))
			if r.Intn(2) == 0 {
				b[at] %= 0x20
			}
		}
		if r.Intn(3) == 0 {
			b = b[:r.Intn(len(b)+1)]
		}
		asTold(t, b)
	}
}

func TestParseOfAllShortBytes(t *testing.T) {
	asTold(t, nil)
	for first := range 256 {
		asTold(t, join(first))
		for second := range 256 {
			asTold(t, join(first, second))
			if first >= 0x20 && first%0x40 != 0 {
				continue // no type that is known
			}
			for _, rest := range []string{"\x00", "\x01", "\x02\x01", "\x02\x00\x01\x01\x00", "\x40\x00\x00\x00\x00", "\x00\x00\x00\x00\x00\x00\x00\x00\x00"} {
				asTold(t, join(first, second, rest))
			}
		}
	}
}

// FuzzParse holds what is parsed of any bytes against the chapter, said once more.
func FuzzParse(f *testing.F) {
	for _, x := range examples {
		f.Add(x.b)
		f.Add(join(x.b, 1, x.b))
		f.Add(x.b[:len(x.b)/2])
	}
	f.Fuzz(func(t *testing.T, b []byte) {
		before := bytes.Clone(b)
		asTold(t, b)
		if !bytes.Equal(b, before) {
			t.Fatalf("what was handed in is %x, was %x", b, before)
		}
	})
}

// FuzzFrame holds which frames are right against the chapter, said once more.
func FuzzFrame(f *testing.F) {
	for _, x := range examples {
		var lo, hi, lo2, hi2 uint64
		if len(x.f.Ranges) > 1 {
			lo, hi, lo2, hi2 = x.f.Ranges[0].Lo, x.f.Ranges[0].Hi, x.f.Ranges[1].Lo, x.f.Ranges[1].Hi
		}
		f.Add(x.f.Kind, x.f.Id, x.f.A, x.f.B, x.f.Code, x.f.Flag, x.f.Data, min(len(x.f.Ranges), 2), lo, hi, lo2, hi2, x.f.Token[:])
	}
	f.Fuzz(func(t *testing.T, kind int, id, a, b, code uint64, flag bool, data []byte, count int, lo, hi, lo2, hi2 uint64, token []byte) {
		x := api.Frame{Kind: kind, Id: id, A: a, B: b, Code: code, Flag: flag, Data: data}
		x.Ranges = []api.Range{{Lo: lo, Hi: hi}, {Lo: lo2, Hi: hi2}}[:min(max(count, 0), 2)]
		copy(x.Token[:], token)
		if slowlyRight(x) {
			isRight(t, "any", x)
		} else {
			isWrong(t, "any", x)
		}
	})
}
