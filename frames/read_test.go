package frames_test

import (
	"bytes"
	"slices"
	"testing"

	"doorward/api"
	"doorward/frames"
	"doorward/varint"
)

// P3.2

// reads fails the test, if bytes begin with another frame than that, or others than so many are left behind it.
func reads(t *testing.T, what string, b []byte, want api.Frame, left int) {
	t.Helper()
	r := varint.Read(b)
	if got := frames.Next(r); !frames.Same(got, want) || r.Bad() != api.OK || r.Left() != left {
		t.Errorf("%s: Next of %x = %+v, %d left, bad by %d, want %+v, %d left", what, b, got, r.Left(), r.Bad(), want, left)
	}
}

// fails fails the test, if bytes aren't told as bad by that error, alone, or (if there are some) behind another frame.
func fails(t *testing.T, what string, b []byte, want api.Errno) {
	t.Helper()
	r := varint.Read(b)
	if got := frames.Next(r); !frames.Same(got, api.Frame{}) || r.Bad() != want || r.Left() != 0 {
		t.Errorf("%s: Next of %x = %+v, %d left, bad by %d, want a zero one, bad by %d", what, b, got, r.Left(), r.Bad(), want)
	}
	if got := frames.Next(r); !frames.Same(got, api.Frame{}) || r.Bad() != want {
		t.Errorf("%s: Next of a bad reader = %+v, bad by %d, want a zero one, bad by %d", what, got, r.Bad(), want)
	}
	if l, e := frames.Parse(join(1, b)); len(b) > 0 && (len(l) != 0 || e != want) {
		t.Errorf("%s: Parse of a Ping and %x = %+v, %d, want none, %d", what, b, l, e, want)
	}
}

func TestNextStandsBehindEachFrame(t *testing.T) {
	var all []byte
	for _, x := range examples {
		reads(t, "alone", x.b, x.f, 0)
		// What isn't a 0 ends a run of these, too.
		reads(t, "with others behind", join(x.b, 0xff, "others"), x.f, 7)
		all = join(all, x.b, 1)
	}
	r, left := varint.Read(all), len(all)
	for _, x := range examples {
		left -= len(x.b)
		if got := frames.Next(r); !frames.Same(got, x.f) || r.Left() != left || r.Bad() != api.OK {
			t.Fatalf("Next = %+v, %d left, bad by %d, want %+v, %d left", got, r.Left(), r.Bad(), x.f, left)
		}
		left--
		if got := frames.Next(r); !frames.Same(got, api.Frame{Kind: api.Ping}) {
			t.Fatalf("Next = %+v, want a Ping", got)
		}
	}
	if frames.Next(r); r.Bad() != api.ErrShort {
		t.Errorf("behind all frames: bad by %d, want ErrShort", r.Bad())
	}
}

func TestNextOfFramesThatAreCutOff(t *testing.T) {
	fails(t, "no byte", nil, api.ErrShort)
	for _, x := range examples {
		if x.f.Kind == api.Padding {
			continue
		}
		for n := range x.b {
			r := varint.Read(x.b[:n])
			if got := frames.Next(r); !frames.Same(got, api.Frame{}) || r.Bad() != api.ErrShort {
				t.Fatalf("Next of %x = %+v, bad by %d, want ErrShort", x.b[:n], got, r.Bad())
			}
			if l, e := frames.Parse(join(1, x.b[:n])); n > 0 && (len(l) != 0 || e != api.ErrShort) {
				t.Fatalf("Parse of a Ping and %x = %+v, %d, want ErrShort", x.b[:n], l, e)
			}
		}
	}
}

func TestNextOfTypesThatAreNotKnown(t *testing.T) {
	for n := uint64(0x1f); n < 300; n++ {
		for _, size := range []int{1, 2, 4, 8} {
			if b := varint.Wide(n, size); len(b) != 0 {
				fails(t, "alone", b, api.ErrForm)
				fails(t, "with others behind", join(b, 0, 0, 0, 0), api.ErrForm)
			}
		}
	}
	// The low bits of these are known types'.
	for _, high := range []uint64{1 << 8, 1 << 16, 1 << 31, 1 << 32, 1 << 33, 1 << 61, 3 << 60} {
		for low := range uint64(0x20) {
			fails(t, "a great one", join(varint.Put(high+low), make([]byte, 40)), api.ErrForm)
		}
	}
	fails(t, "the greatest one", []byte(greatest), api.ErrForm)
	for _, b := range [][]byte{{0x40}, {0x80, 0, 0}, {0xc0, 0, 0, 0, 0, 0, 0}, {0xff}} {
		fails(t, "cut off", b, api.ErrShort)
	}
}

func TestNextOfTypesInLongerBytes(t *testing.T) {
	for _, x := range examples {
		if x.f.Kind == api.Padding {
			continue
		}
		for _, size := range []int{2, 4, 8} {
			b := join(varint.Wide(uint64(x.b[0]), size), x.b[1:])
			reads(t, "a longer type", join(b, 0xff), x.f, 1)
			for n := range b {
				if r := varint.Read(b[:n]); !frames.Same(frames.Next(r), api.Frame{}) || r.Bad() != api.ErrShort {
					t.Fatalf("%x, which is cut off: bad by %d, want ErrShort", b[:n], r.Bad())
				}
			}
		}
	}
}

func TestNextOfIntegersInLongerBytes(t *testing.T) {
	for _, size := range []int{1, 2, 4, 8} {
		w := func(n uint64) []byte { return varint.Wide(n, size) }
		for _, x := range []struct {
			b []byte
			f api.Frame
		}{
			{join(2, w(30), w(5), w(1), w(10), w(0), w(8)), api.Frame{Kind: api.Ack, B: 5, Ranges: []api.Range{{Lo: 20, Hi: 30}, {Lo: 10, Hi: 18}}}},
			{join(3, w(30), w(5), w(0), w(10), w(7), w(8), w(9)), api.Frame{Kind: api.Ack, B: 5, Ranges: []api.Range{{Lo: 20, Hi: 30}}}},
			{join(4, w(1), w(2), w(3)), api.Frame{Kind: api.Reset, Id: 1, Code: 2, A: 3}},
			{join(5, w(1), w(2)), api.Frame{Kind: api.Stop, Id: 1, Code: 2}},
			{join(6, w(7), w(2), "ab"), api.Frame{Kind: api.Crypto, A: 7, Data: []byte("ab")}},
			{join(7, w(2), "ab"), api.Frame{Kind: api.NewToken, Data: []byte("ab")}},
			{join(0x0f, w(1), w(2), w(2), "ab"), api.Frame{Kind: api.Stream, Id: 1, A: 2, Flag: true, Data: []byte("ab")}},
			{join(0x10, w(1)), api.Frame{Kind: api.MaxData, A: 1}},
			{join(0x11, w(1), w(2)), api.Frame{Kind: api.MaxStreamData, Id: 1, A: 2}},
			{join(0x12, w(1)), api.Frame{Kind: api.MaxStreams, A: 1}},
			{join(0x14, w(1)), api.Frame{Kind: api.Blocked, A: 1}},
			{join(0x15, w(1), w(2)), api.Frame{Kind: api.StreamBlocked, Id: 1, A: 2}},
			{join(0x17, w(1)), api.Frame{Kind: api.StreamsFull, A: 1, Flag: true}},
			// How many bytes an id has is a byte all the same.
			{join(0x18, w(2), w(1), 2, "id", token[:]), api.Frame{Kind: api.NewCid, Id: 2, A: 1, Data: []byte("id"), Token: token}},
			{join(0x19, w(1)), api.Frame{Kind: api.RetireCid, Id: 1}},
			{join(0x1c, w(1), w(2), w(2), "ab"), api.Frame{Kind: api.Close, Code: 1, A: 2, Data: []byte("ab")}},
			{join(0x1d, w(1), w(2), "ab"), api.Frame{Kind: api.Close, Code: 1, Flag: true, Data: []byte("ab")}},
		} {
			reads(t, "longer integers", join(x.b, 0xff), x.f, 1)
		}
	}
}

func TestNextOfAnIdsCountThatIsNoInteger(t *testing.T) {
	// As integers, these would tell 1 to 8 bytes: as bytes, more than an id may have.
	for _, b := range []string{"\x40\x01", "\x40\x08", "\x80\x00\x00\x01"} {
		fails(t, "a long count", join(0x18, 2, 1, b, make([]byte, 300)), api.ErrForm)
		fails(t, "a long count, and too few bytes", join(0x18, 2, 1, b, make([]byte, 24)), api.ErrShort)
	}
}

func TestNextOfRunsOfZeros(t *testing.T) {
	for _, x := range []struct{ zeros, first int }{{1, 1}, {2, 2}, {63, 63}, {64, 64}, {1199, 1199}, {1200, 1200}, {1201, 1200}, {2400, 1200}, {5000, 1200}} {
		want := api.Frame{Kind: api.Padding, A: uint64(x.first)}
		reads(t, "alone", make([]byte, x.zeros), want, x.zeros-x.first)
		reads(t, "ahead of a Ping", join(make([]byte, x.zeros), 1), want, x.zeros-x.first+1)
	}
	for _, size := range []int{2, 4, 8} {
		reads(t, "a longer type", varint.Wide(0, size), api.Frame{Kind: api.Padding, A: 1}, 0)
		reads(t, "a longer type ahead of a Ping", join(varint.Wide(0, size), 1), api.Frame{Kind: api.Padding, A: 1}, 1)
		reads(t, "a 0 ahead of a longer type", join(0, varint.Wide(0, size)), api.Frame{Kind: api.Padding, A: 1}, size)
		reads(t, "a longer type ahead of a run", join(varint.Wide(0, size), 0, 0, 1), api.Frame{Kind: api.Padding, A: 3}, 1)
		reads(t, "a longer type ahead of a long run", join(varint.Wide(0, size), make([]byte, 1200)), api.Frame{Kind: api.Padding, A: 1200}, 1)
	}
}

func TestParseOfRunsOfZeros(t *testing.T) {
	for _, n := range []int{1, 1199, 1200, 1201, 2399, 2400, 2401, 64 * 1200} {
		l, e := frames.Parse(make([]byte, n))
		if e != api.OK || len(l) != (n+1199)/1200 {
			t.Fatalf("Parse of %d zeros: %d frames, %d", n, len(l), e)
		}
		for i, f := range l {
			if !frames.Same(f, api.Frame{Kind: api.Padding, A: uint64(min(1200, n-1200*i))}) {
				t.Errorf("%d zeros: frame %d is %+v", n, i, f)
			}
		}
	}
	if l, e := frames.Parse(make([]byte, 64*1200+1)); e != api.ErrForm || len(l) != 0 {
		t.Errorf("Parse of 65 runs: %d frames, %d, want ErrForm", len(l), e)
	}
}

func TestNextOfAnAckWithCounts(t *testing.T) {
	want := api.Frame{Kind: api.Ack, B: 5, Ranges: []api.Range{{Lo: 20, Hi: 30}, {Lo: 10, Hi: 18}}}
	b := join(3, 30, 5, 1, 10, 0, 8, 0x7f, 0xff, 0, greatest)
	reads(t, "three counts", join(b, 0xff), want, 1)
	for n := range b {
		fails(t, "a count that is cut off", b[:n], api.ErrShort)
	}
	reads(t, "an Ack of type 2 has none", join(2, b[1:]), want, 11)
}

func TestNextOfWrongRanges(t *testing.T) {
	for _, x := range []struct {
		what string
		b    []byte
		want api.Errno
	}{
		{"17 ranges", join(2, 60, 0, 16, 0), api.ErrForm},
		{"17 ranges, all of them there", join(2, 0x40, 100, 0, 16, 0, make([]byte, 32)), api.ErrForm},
		{"17 ranges, the first one's length not there", join(2, 60, 0, 16), api.ErrShort},
		{"as many ranges as can be written", join(2, 60, 0, greatest, 0), api.ErrForm},
		{"2^32 ranges and 1", join(2, 60, 0, varint.Put(1<<32), 0), api.ErrForm},
		{"the first one below 0", join(2, 10, 0, 0, 11), api.ErrForm},
		{"the first one far below 0", join(2, 10, 0, 0, greatest), api.ErrForm},
		{"the first one below 0, others not there", join(2, 10, 0, 1, 11), api.ErrForm},
		{"the first one below 0, its length cut off", join(2, 10, 0, 1, 0x40), api.ErrShort},
		{"the first one below 0, of an Ack of type 3", join(3, 10, 0, 0, 11), api.ErrForm},
		{"no other one, though one is told", join(2, 10, 0, 1, 0), api.ErrShort},
		{"another one's Hi below 0", join(2, 10, 0, 1, 9, 0, 0), api.ErrForm},
		{"another one's Hi below 0, behind 0", join(2, 10, 0, 1, 10, 0, 0), api.ErrForm},
		{"another one's Hi far below 0", join(2, 10, 0, 1, 0, greatest, 0), api.ErrForm},
		{"another one's Hi below 0, its length not there", join(2, 10, 0, 1, 9, 0), api.ErrShort},
		{"another one's Hi below 0, its length cut off", join(2, 10, 0, 1, 9, 0, 0x80, 0, 0), api.ErrShort},
		{"another one's Lo below 0", join(2, 10, 0, 1, 0, 0, 9), api.ErrForm},
		{"another one's Lo far below 0", join(2, 10, 0, 1, 0, 0, greatest), api.ErrForm},
		{"another one's both below 0", join(2, 10, 0, 1, 0, greatest, greatest), api.ErrForm},
		{"another one's Lo below 0, others not there", join(2, 10, 0, 2, 0, 0, 9), api.ErrForm},
		{"a third one below 0", join(2, 10, 0, 2, 0, 0, 8, 0, 0), api.ErrForm},
		{"another one below 0, counts not there", join(3, 10, 0, 1, 0, 0, 9), api.ErrForm},
	} {
		fails(t, x.what, x.b, x.want)
	}
	reads(t, "the first one down to 0", join(2, 10, 0, 0, 10), api.Frame{Kind: api.Ack, Ranges: []api.Range{{Lo: 0, Hi: 10}}}, 0)
	reads(t, "another one of 0 alone", join(2, 10, 0, 1, 8, 0, 0), api.Frame{Kind: api.Ack, Ranges: []api.Range{{Lo: 2, Hi: 10}, {Lo: 0, Hi: 0}}}, 0)
	reads(t, "another one down to 0", join(2, 10, 0, 1, 0, 0, 8), api.Frame{Kind: api.Ack, Ranges: []api.Range{{Lo: 10, Hi: 10}, {Lo: 0, Hi: 8}}}, 0)
	reads(t, "16 ranges", join(2, 61, 0, 15, 1, bytes.Repeat([]byte{1}, 30)), api.Frame{Kind: api.Ack, Ranges: sixteen()}, 0)
}

func TestNextOfStreamsOfEachType(t *testing.T) {
	text := []byte("abc")
	for bits := range 8 {
		flag, counted, placed := bits&1 != 0, bits&2 != 0, bits&4 != 0
		for _, place := range []uint64{0, 5, 64} {
			b := join(8+bits, 3)
			want := api.Frame{Kind: api.Stream, Id: 3, Flag: flag, Data: text}
			if placed {
				b, want.A = join(b, varint.Put(place)), place
			}
			if counted {
				reads(t, "with a count", join(b, 3, text, 0xff), want, 1)
				fails(t, "with a count, fewer bytes", join(b, 4, text), api.ErrShort)
				fails(t, "a count that isn't there", b, api.ErrShort)
				continue
			}
			reads(t, "all that is left", join(b, text), want, 0)
			want.Data = nil
			reads(t, "nothing is left", b, want, 0)
			want.Data = many(1200)
			reads(t, "as much as may be is left", join(b, want.Data), want, 0)
			fails(t, "more than may be is left", join(b, many(1201)), api.ErrForm)
		}
		fails(t, "no id", join(8+bits), api.ErrShort)
	}
	for _, b := range [][]byte{{0x0c, 3}, {0x0d, 3, 0x40}, {0x0e, 3}, {0x0f, 3, 0x80}} {
		fails(t, "no place", b, api.ErrShort)
	}
}

func TestNextOfPlacesNearTheGreatest(t *testing.T) {
	for _, n := range []int{0, 1, 2, 1200} {
		last, behind := varint.Put(uint64(api.MaxInt-n)), varint.Put(uint64(api.MaxInt-n+1))
		count, text := varint.Put(uint64(n)), many(n)
		reads(t, "a Crypto up to MaxInt", join(6, last, count, text), api.Frame{Kind: api.Crypto, A: uint64(api.MaxInt - n), Data: text}, 0)
		reads(t, "a Stream up to MaxInt", join(0x0f, 3, last, count, text), api.Frame{Kind: api.Stream, Id: 3, A: uint64(api.MaxInt - n), Flag: true, Data: text}, 0)
		reads(t, "a Stream without a count up to MaxInt", join(0x0c, 3, last, text), api.Frame{Kind: api.Stream, Id: 3, A: uint64(api.MaxInt - n), Data: text}, 0)
		if n == 0 {
			continue
		}
		fails(t, "a Crypto up to one more", join(6, behind, count, text), api.ErrForm)
		fails(t, "a Stream up to one more", join(0x0e, 3, behind, count, text), api.ErrForm)
		fails(t, "a Stream without a count up to one more", join(0x0c, 3, behind, text), api.ErrForm)
		fails(t, "a Crypto up to one more, cut off", join(6, behind, count, text[1:]), api.ErrShort)
	}
}

func TestNextOfFramesThatAreNotRight(t *testing.T) {
	long := join(varint.Put(1201), many(1201))
	for _, x := range []struct {
		what string
		b    []byte
		want api.Errno
	}{
		{"a Crypto of 1,201 bytes", join(6, 0, long), api.ErrForm},
		{"a Crypto of 1,201 bytes, cut off", join(6, 0, long[:len(long)-1]), api.ErrShort},
		{"a Crypto of as many bytes as can be written", join(6, 0, greatest, many(2000)), api.ErrShort},
		{"a NewToken of none", join(7, 0), api.ErrForm},
		{"a NewToken of none, in longer bytes", join(7, 0x40, 0), api.ErrForm},
		{"a NewToken of 1,201 bytes", join(7, long), api.ErrForm},
		{"a NewToken of 1,201 bytes, cut off", join(7, long[:20]), api.ErrShort},
		{"a Stream of 1,201 bytes", join(0x0a, 3, long), api.ErrForm},
		{"a Stream of 1,201 bytes, cut off", join(0x0a, 3, long[:1202]), api.ErrShort},
		{"2^60 streams and one", join(0x12, varint.Put(1<<60+1)), api.ErrForm},
		{"2^60 streams of one way and one", join(0x13, varint.Put(1<<60+1)), api.ErrForm},
		{"MaxInt streams", join(0x12, greatest), api.ErrForm},
		{"2^60 streams that are full and one", join(0x16, varint.Put(1<<60+1)), api.ErrForm},
		{"2^60 streams of one way that are full and one", join(0x17, varint.Put(1<<60+1)), api.ErrForm},
		{"an id that retires itself", join(0x18, 1, 2, 1, "i", token[:]), api.ErrForm},
		{"an id that retires itself, cut off", join(0x18, 1, 2, 1, "i", token[:15]), api.ErrShort},
		{"an id of no bytes", join(0x18, 2, 1, 0, token[:]), api.ErrForm},
		{"an id of no bytes, cut off", join(0x18, 2, 1, 0, token[:15]), api.ErrShort},
		{"an id of 21 bytes", join(0x18, 2, 1, 21, many(21), token[:]), api.ErrForm},
		{"an id of 21 bytes, cut off", join(0x18, 2, 1, 21, many(21), token[:15]), api.ErrShort},
		{"an id of 255 bytes", join(0x18, 2, 1, 255, many(255), token[:]), api.ErrForm},
		{"a Close of 1,201 bytes", join(0x1c, 1, 2, long), api.ErrForm},
		{"a Close of 1,201 bytes, cut off", join(0x1c, 1, 2, long[:1202]), api.ErrShort},
		{"an application's Close of 1,201 bytes", join(0x1d, 1, long), api.ErrForm},
	} {
		fails(t, x.what, x.b, x.want)
	}
	reads(t, "2^60 streams", join(0x13, varint.Put(1<<60)), api.Frame{Kind: api.MaxStreams, A: 1 << 60, Flag: true}, 0)
	reads(t, "2^60 streams that are full", join(0x16, varint.Put(1<<60)), api.Frame{Kind: api.StreamsFull, A: 1 << 60}, 0)
}

func TestNextOfABadReader(t *testing.T) {
	for _, e := range []api.Errno{api.ErrArg, api.ErrShort, api.ErrForm, api.ErrTwice} {
		r := varint.Read(join(1, 1))
		r.Fail(e)
		if got := frames.Next(r); !frames.Same(got, api.Frame{}) || r.Bad() != e {
			t.Errorf("Next of a reader that is bad by %d: %+v, bad by %d", e, got, r.Bad())
		}
	}
	var none *varint.Reader
	if got := frames.Next(none); !frames.Same(got, api.Frame{}) || none.Bad() != api.ErrArg {
		t.Errorf("Next of a nil reader: %+v, bad by %d", got, none.Bad())
	}
}

func TestNextBehindWhatAnotherOneRead(t *testing.T) {
	r := varint.Read(join(9, 9, 0, 0, 0x1e, 7))
	r.Int()
	r.Byte()
	for _, want := range []api.Frame{{Kind: api.Padding, A: 2}, {Kind: api.Done}} {
		if got := frames.Next(r); !frames.Same(got, want) || r.Bad() != api.OK {
			t.Errorf("Next = %+v, bad by %d, want %+v", got, r.Bad(), want)
		}
	}
	if got := r.Byte(); got != 7 || r.Left() != 0 || r.Bad() != api.OK {
		t.Errorf("behind the frames stands %d, want 7", got)
	}
}

func TestParseOfAllFrames(t *testing.T) {
	var all []byte
	var want []api.Frame
	for _, x := range examples {
		if x.f.Kind != api.Padding {
			all, want = join(all, x.b), append(want, x.f)
		}
	}
	l, e := frames.Parse(join(all, 8, 3, "ab"))
	want = append(want, api.Frame{Kind: api.Stream, Id: 3, Data: []byte("ab")})
	if e != api.OK || !slices.EqualFunc(l, want, frames.Same) {
		t.Errorf("Parse = %+v, %d, want %+v", l, e, want)
	}
}

func TestParseOfNothing(t *testing.T) {
	for _, b := range [][]byte{nil, {}, make([]byte, 5)[:0]} {
		if l, e := frames.Parse(b); len(l) != 0 || e != api.ErrForm {
			t.Errorf("Parse of no byte = %+v, %d, want ErrForm", l, e)
		}
	}
}

func TestParseOfAsManyFramesAsMayBe(t *testing.T) {
	for n := 1; n <= 64; n++ {
		if l, e := frames.Parse(bytes.Repeat([]byte{1}, n)); e != api.OK || len(l) != n {
			t.Errorf("Parse of %d Pings: %d frames, %d", n, len(l), e)
		}
	}
	for _, n := range []int{65, 66, 128, 1200, 100000} {
		if l, e := frames.Parse(bytes.Repeat([]byte{1}, n)); e != api.ErrForm || len(l) != 0 {
			t.Errorf("Parse of %d Pings: %d frames, %d, want ErrForm", n, len(l), e)
		}
	}
	if l, e := frames.Parse(join(bytes.Repeat([]byte{0, 1}, 32), 0)); e != api.ErrForm || len(l) != 0 {
		t.Errorf("Parse of 32 Pings, and 33 Paddings: %d frames, %d, want ErrForm", len(l), e)
	}
}

func TestParseTellsAFramesErrorAheadOfTooMany(t *testing.T) {
	for _, n := range []int{0, 1, 63, 64, 65, 100} {
		pings := bytes.Repeat([]byte{1}, n)
		for _, x := range []struct {
			b    []byte
			want api.Errno
		}{{join(0x10), api.ErrShort}, {join(6, 0, 5, 1), api.ErrShort}, {join(0x1f), api.ErrForm}, {join(7, 0), api.ErrForm}, {join(0x1f, 0x10), api.ErrForm}, {join(6, 0, 5, 1, 0x1f), api.ErrShort}} {
			if l, e := frames.Parse(join(pings, x.b)); len(l) != 0 || e != x.want {
				t.Errorf("Parse of %d Pings and %x: %d frames, %d, want %d", n, x.b, len(l), e, x.want)
			}
		}
	}
}

func TestParseAnswersNewMemory(t *testing.T) {
	for _, x := range examples {
		memory := join(x.b, 1, x.b, "spare room")
		want := bytes.Clone(memory)
		text := memory[: 2*len(x.b)+1 : len(memory)]
		l, e := frames.Parse(text)
		if !bytes.Equal(memory, want) {
			t.Errorf("%+v: what was handed in was changed", x.f)
		}
		spoil(memory)
		if e != api.OK || len(l) != 3 || !frames.Same(l[0], x.f) || !frames.Same(l[2], x.f) {
			t.Fatalf("%+v: parsed was %+v, %d, of a text that was changed behind Parse", x.f, l, e)
		}
		spoil(l[0].Data)
		for i := range l[0].Ranges[:cap(l[0].Ranges)] {
			l[0].Ranges[:cap(l[0].Ranges)][i].Lo += 99
		}
		if again, e := frames.Parse(want[:len(text)]); !frames.Same(l[2], x.f) || e != api.OK || !frames.Same(again[0], x.f) {
			t.Errorf("%+v: an answer hangs on what became of another one", x.f)
		}
	}
}
