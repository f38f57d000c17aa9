package params_test

import (
	"bytes"
	"math"
	"slices"
	"testing"

	"doorward/api"
	"doorward/params"
	"doorward/varint"
)

// reads fails the test, if bytes don't tell those parameters.
func reads(t *testing.T, what string, b []byte, want api.Params) {
	t.Helper()
	if p, e := params.Read(b); p != want || e != api.OK {
		t.Errorf("%s: Read(%x) = %+v, %d, want %+v, OK", what, b, p, e, want)
	}
}

// fails fails the test, if bytes aren't told as wrong by that error, or something is told beside it.
func fails(t *testing.T, what string, b []byte, want api.Errno) {
	t.Helper()
	if p, e := params.Read(b); p != (api.Params{}) || e != want {
		t.Errorf("%s: Read(%x) = %+v, %d, want zero ones, %d", what, b, p, e, want)
	}
}

// all are the bytes of all parameters of whole, one by one.
func all() [][]byte {
	return [][]byte{said(1, 0x41, 0x2c), said(2, text(1, 16)), said(4, 0x40, 70), said(5, 5), said(8, 2)}
}

// others are parameters that nobody here knows, with values of many sizes.
func others() [][]byte {
	l := [][]byte{said(33, text(1, 16)), said(6), said(0x2ab2, bytes.Repeat([]byte{255}, 64)), said(api.MaxInt, 1, 1, 5), said(1<<60+1, 5)}
	for _, n := range []uint64{0, 3, 6, 7, 9, 10, 63, 64, 65, 66, 68, 69, 72, 256, 257, 258, 260, 261, 264, 1 << 32, 1<<32 + 1, 1<<32 + 2, 1<<61 + 4, 1<<61 + 8} {
		l = append(l, said(n, 5), said(n), said(n, 0x40), said(n, text(1, 17)))
	}
	return l
}

// P5.2

func TestReadOfExamples(t *testing.T) {
	for _, x := range examples {
		reads(t, x.what, x.b, x.p)
	}
}

func TestReadOfNothing(t *testing.T) {
	reads(t, "nil", nil, api.Params{})
	reads(t, "no byte", []byte{}, api.Params{})
	reads(t, "no byte, but spare room", text(1, 9)[:0], api.Params{})
}

// orders calls what is handed in for each order of a list.
func orders(l [][]byte, try func(l [][]byte)) {
	var from func(n int)
	from = func(n int) {
		if n == len(l) {
			try(l)
		}
		for i := n; i < len(l); i++ {
			l[n], l[i] = l[i], l[n]
			from(n + 1)
			l[n], l[i] = l[i], l[n]
		}
	}
	from(0)
}

func TestReadInAnyOrder(t *testing.T) {
	tried := 0
	orders(all(), func(l [][]byte) {
		tried++
		reads(t, "in some order", slices.Concat(l...), whole)
	})
	if tried != 120 {
		t.Errorf("tried were %d orders", tried)
	}
}

func TestReadOfEachChoice(t *testing.T) {
	for choice := range 32 {
		var b []byte
		want := whole
		for i, drop := range []func(){
			func() { want.Idle = 0 },
			func() { want.Has, want.Token = false, [16]byte{} },
			func() { want.Data = 0 },
			func() { want.Stream = 0 },
			func() { want.Streams = 0 },
		} {
			if choice>>i&1 == 0 {
				drop()
			} else {
				b = join(b, all()[i])
			}
		}
		reads(t, "those chosen", b, want)
	}
}

func TestOthersArePassedOver(t *testing.T) {
	for _, o := range others() {
		reads(t, "alone", o, api.Params{})
		reads(t, "twice", join(o, o), api.Params{})
		for at := range len(all()) + 1 {
			b := slices.Concat(slices.Insert(all(), at, o)...)
			reads(t, "in between", b, whole)
			reads(t, "twice, one behind the other", slices.Concat(slices.Insert(all(), at, o, o)...), whole)
			reads(t, "in front, and in between", join(o, b), whole)
			reads(t, "in between, and behind", join(b, o), whole)
		}
	}
	reads(t, "all of them", slices.Concat(others()...), api.Params{})
	reads(t, "all of them, and behind", join(slices.Concat(others()...), slices.Concat(all()...), slices.Concat(others()...)), whole)
}

func TestWhatAnotherHasIsNoParameter(t *testing.T) {
	for _, b := range all() {
		reads(t, "within another's value", said(33, b), api.Params{})
		reads(t, "within another's value, and behind", join(said(33, b), slices.Concat(all()...)), whole)
	}
}

func TestIntegersInLongerBytes(t *testing.T) {
	for _, x := range places {
		for _, n := range []uint64{0, 5, 63} {
			var want api.Params
			*x.place(&want) = n
			for _, size := range []int{1, 2, 4, 8} {
				value := varint.Wide(n, size)
				reads(t, x.what+", its value", said(x.number, value), want)
				for _, wide := range []int{1, 2, 4, 8} {
					count := varint.Wide(uint64(size), wide)
					reads(t, x.what+", how many", join(int(x.number), count, value), want)
					reads(t, x.what+", its number", join(varint.Wide(x.number, wide), size, value), want)
					reads(t, x.what+", all three", join(varint.Wide(x.number, wide), count, value), want)
				}
			}
		}
	}
	for _, wide := range []int{1, 2, 4, 8} {
		want := api.Params{Has: true, Token: token}
		reads(t, "Token, its number", join(varint.Wide(2, wide), 16, text(1, 16)), want)
		reads(t, "Token, how many", join(2, varint.Wide(16, wide), text(1, 16)), want)
		reads(t, "another", join(varint.Wide(33, wide), varint.Wide(2, wide), 1, 1), api.Params{})
	}
}

func TestZerosThatStandThere(t *testing.T) {
	for _, x := range places {
		reads(t, x.what, said(x.number, 0), api.Params{})
		fails(t, x.what+", twice", join(said(x.number, 0), said(x.number, 0)), api.ErrTwice)
		fails(t, x.what+", and 5", join(said(x.number, 0), said(x.number, 5)), api.ErrTwice)
	}
	reads(t, "a Token", said(2, none), api.Params{Has: true})
	fails(t, "a Token, twice", join(said(2, none), said(2, none)), api.ErrTwice)
	fails(t, "a Token, and another one", join(said(2, none), said(2, text(1, 16))), api.ErrTwice)
}

func TestEachParameterTwice(t *testing.T) {
	for i, b := range all() {
		fails(t, "one behind the other", join(b, b), api.ErrTwice)
		fails(t, "its number in longer bytes", join(b, varint.Wide(uint64(b[0]), 4), b[1:]), api.ErrTwice)
		for j, o := range all() {
			if i != j {
				fails(t, "another one in between", join(b, o, b), api.ErrTwice)
				fails(t, "behind all", join(slices.Concat(all()...), b), api.ErrTwice)
			}
		}
		for _, o := range others() {
			fails(t, "another's in between", join(b, o, b), api.ErrTwice)
		}
		for _, value := range [][]byte{nil, {0x40}, {5, 5}, text(1, 15), text(1, 17), none, bytes.Repeat([]byte{255}, 8)} {
			fails(t, "a value that may be wrong", join(b, said(uint64(b[0]), value)), api.ErrTwice)
			fails(t, "the same, and more that is wrong", join(b, said(uint64(b[0]), value), said(1), 9), api.ErrTwice)
		}
		for n := 1; n < len(b); n++ {
			fails(t, "cut off the second time", join(b, b[:n]), api.ErrShort)
		}
		fails(t, "a value that isn't there the second time", join(b, int(b[0]), 0x44, 0xb0, b), api.ErrShort)
	}
}

func TestValuesThatAreNoInteger(t *testing.T) {
	for _, x := range places {
		for what, value := range map[string][]byte{
			"none":                        nil,
			"two":                         {5, 5},
			"two of 0":                    {0, 0},
			"two of 2 bytes":              {0x41, 0x2c, 0x41, 0x2c},
			"a byte behind":               {0x41, 0x2c, 0},
			"a byte behind the longest":   join(0xc0, text(1, 7), 9),
			"1 byte of 2":                 {0x40},
			"1 byte of 4":                 {0x80},
			"3 bytes of 4":                {0x80, 0, 0},
			"1 byte of 8":                 {0xc0},
			"7 bytes of 8":                join(0xc0, text(1, 6)),
			"a Token":                     text(1, 16),
			"a Token that begins by a c0": join(0xc0, text(1, 15)),
			"many integers":               bytes.Repeat([]byte{5}, 300),
			"a parameter's bytes":         {1, 1, 5},
		} {
			b := said(x.number, value)
			fails(t, x.what+", "+what, b, api.ErrForm)
			fails(t, x.what+", "+what+", another's ahead", join(said(33, 5), b), api.ErrForm)
			// A value ends where its count says, also where what stands behind would make it whole.
			fails(t, x.what+", "+what+", others behind", join(b, said(33, 5), said(34, text(1, 9))), api.ErrForm)
			fails(t, x.what+", "+what+", it again behind", join(b, said(x.number, 5)), api.ErrForm)
			fails(t, x.what+", "+what+", a byte behind", join(b, 7), api.ErrForm)
		}
	}
}

func TestTokensOfOtherSizes(t *testing.T) {
	for n := range 70 {
		b := said(2, text(1, n))
		if n == 16 {
			reads(t, "of 16", b, api.Params{Has: true, Token: token})
			continue
		}
		fails(t, "alone", b, api.ErrForm)
		fails(t, "behind others", join(said(1, 5), b), api.ErrForm)
		fails(t, "ahead of others", join(b, text(1, 16)), api.ErrForm)
		fails(t, "ahead of one of 16", join(b, said(2, text(1, 16))), api.ErrForm)
	}
	for _, n := range []int{256, 256 + 16, 65536 + 16} {
		fails(t, "alone", said(2, make([]byte, n)), api.ErrForm)
	}
}

func TestStreamsThatAreTooMany(t *testing.T) {
	for _, n := range []uint64{1<<60 + 1, 1<<60 + 2, 1 << 61, api.MaxInt} {
		b := said(8, varint.Put(n))
		fails(t, "alone", b, api.ErrForm)
		fails(t, "among others", join(said(1, 5), b, said(33, 5), said(4, 5)), api.ErrForm)
		// What may not be is told behind all that is read.
		fails(t, "ahead of what comes again", join(b, said(1, 5), said(1, 5)), api.ErrTwice)
		fails(t, "twice", join(b, b), api.ErrTwice)
		fails(t, "ahead of what is cut off", join(b, 1, 2, 5), api.ErrShort)
		fails(t, "ahead of what is no integer", join(b, said(1)), api.ErrForm)
	}
	for _, n := range []uint64{1<<60 - 1, 1 << 60} {
		reads(t, "as many as may be", join(said(1, 5), said(8, varint.Put(n))), api.Params{Idle: 5, Streams: n})
	}
}

func TestTheGreatestIntegers(t *testing.T) {
	for _, x := range places[:3] {
		var want api.Params
		*x.place(&want) = api.MaxInt
		reads(t, x.what, said(x.number, varint.Put(api.MaxInt)), want)
	}
}

func TestBytesThatAreCutOff(t *testing.T) {
	for _, x := range append(all(), others()...) {
		for n := 1; n < len(x); n++ {
			fails(t, "one", x[:n], api.ErrShort)
			fails(t, "behind others", join(said(34, 5), x[:n]), api.ErrShort)
		}
	}
	b := slices.Concat(all()...)
	ends := map[int]bool{0: true}
	for i := range all() {
		ends[len(slices.Concat(all()[:i+1]...))] = true
	}
	for n := range b {
		if _, e := params.Read(b[:n]); (e == api.OK) != ends[n] || e != api.OK && e != api.ErrShort {
			t.Errorf("all, cut off behind %d: %d", n, e)
		}
	}
	for _, n := range []uint64{2, 16, 63, 64, 1 << 31, 1 << 32, 1<<32 + 1, 1 << 61, api.MaxInt} {
		for number := range 35 {
			fails(t, "a count of more than there are", join(number, varint.Put(n), 5), api.ErrShort)
			fails(t, "the same, with none", join(number, varint.Put(n)), api.ErrShort)
		}
	}
}

func TestWhatIsWrongFirstIsTold(t *testing.T) {
	short, twice, form := []byte{4, 2, 5}, join(said(5, 5), said(5, 5)), said(1, 5, 5)
	fails(t, "form, short", join(form, short), api.ErrForm)
	fails(t, "form, twice", join(form, twice), api.ErrForm)
	fails(t, "twice, form", join(twice, form), api.ErrTwice)
	fails(t, "twice, short", join(twice, short), api.ErrTwice)
	fails(t, "short", short, api.ErrShort)
	fails(t, "good, short", join(said(1, 5), short), api.ErrShort)
	fails(t, "form, twice, too many, short", join(said(8, varint.Put(api.MaxInt)), form, twice, short), api.ErrForm)
}

func TestEachNumberOfOneByte(t *testing.T) {
	for number := range 64 {
		var want api.Params
		switch number {
		case 1:
			want.Idle = 5
		case 2:
			fails(t, "a Token of 1", []byte{2, 1, 5}, api.ErrForm)
			continue
		case 4:
			want.Data = 5
		case 5:
			want.Stream = 5
		case 8:
			want.Streams = 5
		}
		reads(t, "of the value 5", []byte{byte(number), 1, 5}, want)
	}
}

func TestReadNeitherChangesNorKeepsWhatIsHandedIn(t *testing.T) {
	memory := join(slices.Concat(all()...), said(33, 5), "spare room")
	before := bytes.Clone(memory)
	b := memory[:len(memory)-len("spare room")]
	p, e := params.Read(b)
	if !bytes.Equal(memory, before) {
		t.Errorf("what was handed in is changed: %x", memory)
	}
	spoil(memory)
	if p != whole || e != api.OK {
		t.Errorf("an answer hangs on what became of what was handed in: %+v, %d", p, e)
	}
}

func TestManyOfOthers(t *testing.T) {
	b := join(bytes.Repeat(said(math.MaxUint8, text(1, 3)), 50000), slices.Concat(all()...))
	reads(t, "behind many", b, whole)
	fails(t, "behind many, twice", join(b, all()[0]), api.ErrTwice)
}
