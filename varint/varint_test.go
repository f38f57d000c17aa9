package varint_test

import (
	"bytes"
	"math"
	"slices"
	"testing"

	"doorward/api"
	"doorward/varint"
)

// edges are each length's least and greatest integer, and how they are written.
var edges = []struct {
	n    uint64
	size int
	b    []byte
}{
	{0, 1, []byte{0x00}},
	{1, 1, []byte{0x01}},
	{37, 1, []byte{0x25}},
	{1<<6 - 1, 1, []byte{0x3f}},
	{1 << 6, 2, []byte{0x40, 0x40}},
	{15293, 2, []byte{0x7b, 0xbd}},
	{1<<14 - 1, 2, []byte{0x7f, 0xff}},
	{1 << 14, 4, []byte{0x80, 0x00, 0x40, 0x00}},
	{494878333, 4, []byte{0x9d, 0x7f, 0x3e, 0x7d}},
	{1<<30 - 1, 4, []byte{0xbf, 0xff, 0xff, 0xff}},
	{1 << 30, 8, []byte{0xc0, 0, 0, 0, 0x40, 0, 0, 0}},
	{1 << 32, 8, []byte{0xc0, 0, 0, 1, 0, 0, 0, 0}},
	{151288809941952652, 8, []byte{0xc2, 0x19, 0x7c, 0x5e, 0xff, 0x14, 0xe8, 0x8c}},
	{api.MaxInt, 8, []byte{0xff, 0xff, 0xff, 0xff, 0xff, 0xff, 0xff, 0xff}},
}

// notIntegers are numbers that are more than may be written.
var notIntegers = []uint64{api.MaxInt + 1, api.MaxInt + 2, 1 << 63, 1<<63 - 1, 1<<63 + 1, math.MaxUint64 - 1, math.MaxUint64}

// lengths are those that an integer may have.
var lengths = []int{1, 2, 4, 8}

// most is the greatest integer of a length, written down apart from the program's reckoning.
var most = map[int]uint64{1: 63, 2: 16383, 4: 1073741823, 8: 4611686018427387903}

// P1.1

func TestSizeAndPutOfEachLengthsEdges(t *testing.T) {
	for _, x := range edges {
		if got := varint.Size(x.n); got != x.size {
			t.Errorf("Size(%d) = %d, want %d", x.n, got, x.size)
		}
		if got := varint.Put(x.n); !bytes.Equal(got, x.b) {
			t.Errorf("Put(%d) = %x, want %x", x.n, got, x.b)
		}
	}
}

func TestWhatIsNoIntegerHasNoBytes(t *testing.T) {
	for _, n := range notIntegers {
		if got := varint.Size(n); got != 0 {
			t.Errorf("Size(%d) = %d, want 0", n, got)
		}
		if got := varint.Put(n); len(got) != 0 {
			t.Errorf("Put(%d) = %x, want none", n, got)
		}
		for _, size := range append([]int{0, 3, 16}, lengths...) {
			if got := varint.Wide(n, size); len(got) != 0 {
				t.Errorf("Wide(%d, %d) = %x, want none", n, size, got)
			}
		}
	}
}

func TestWideOfEachLength(t *testing.T) {
	for _, x := range []struct {
		n    uint64
		size int
		b    []byte
	}{
		{0, 2, []byte{0x40, 0}},
		{0, 4, []byte{0x80, 0, 0, 0}},
		{0, 8, []byte{0xc0, 0, 0, 0, 0, 0, 0, 0}},
		{37, 1, []byte{0x25}},
		{37, 2, []byte{0x40, 0x25}},
		{37, 4, []byte{0x80, 0, 0, 0x25}},
		{37, 8, []byte{0xc0, 0, 0, 0, 0, 0, 0, 0x25}},
		{15293, 4, []byte{0x80, 0, 0x3b, 0xbd}},
		{1<<30 - 1, 8, []byte{0xc0, 0, 0, 0, 0x3f, 0xff, 0xff, 0xff}},
	} {
		if got := varint.Wide(x.n, x.size); !bytes.Equal(got, x.b) {
			t.Errorf("Wide(%d, %d) = %x, want %x", x.n, x.size, got, x.b)
		}
	}
	for _, x := range edges {
		if got := varint.Wide(x.n, x.size); !bytes.Equal(got, x.b) {
			t.Errorf("Wide(%d, %d) = %x, want %x as Put has it", x.n, x.size, got, x.b)
		}
	}
}

func TestWideOfWhatDoesNotFit(t *testing.T) {
	for _, size := range lengths {
		for _, n := range []uint64{most[size] - 1, most[size]} {
			if got := varint.Wide(n, size); len(got) != size {
				t.Errorf("Wide(%d, %d) = %x, want %d bytes", n, size, got, size)
			}
		}
		for _, n := range []uint64{most[size] + 1, most[size] + 2, most[size] << 1, most[size]<<2 | 3, math.MaxUint64} {
			if got := varint.Wide(n, size); len(got) != 0 {
				t.Errorf("Wide(%d, %d) = %x, want none", n, size, got)
			}
		}
	}
}

func TestWideOfALengthThatIsNone(t *testing.T) {
	sizes := []int{math.MinInt, math.MinInt + 1, math.MinInt32, math.MaxInt32, math.MaxInt - 1, math.MaxInt, 1 << 32, 1<<32 + 1, 1<<62 + 8, 1 << 61}
	for size := -70; size <= 300; size++ {
		sizes = append(sizes, size)
	}
	for _, size := range sizes {
		if slices.Contains(lengths, size) {
			continue
		}
		for _, n := range []uint64{0, 1, 63, 64, 1 << 30, api.MaxInt, math.MaxUint64} {
			if got := varint.Wide(n, size); len(got) != 0 {
				t.Errorf("Wide(%d, %d) = %x, want none", n, size, got)
			}
		}
	}
}

func TestPutAnswersNewMemory(t *testing.T) {
	for _, x := range edges {
		first := varint.Put(x.n)
		second := varint.Wide(x.n, x.size)
		spoil(first)
		if !bytes.Equal(second, x.b) || !bytes.Equal(varint.Put(x.n), x.b) {
			t.Errorf("%d: an answer hangs on what became of another one", x.n)
		}
	}
}

// spoil writes to all of a slice's memory, its spare room included.
func spoil(b []byte) {
	b = b[:cap(b)]
	for i := range b {
		b[i] ^= 0xa5
	}
}

// P1.2

// stands fails the test, if a reader hasn't so many bytes left, or isn't bad by that error.
func stands(t *testing.T, what string, r *varint.Reader, left int, bad api.Errno) {
	t.Helper()
	if r.Left() != left || r.Bad() != bad {
		t.Errorf("%s: %d bytes left and bad by %d, want %d and %d", what, r.Left(), r.Bad(), left, bad)
	}
}

// readsNothing fails the test, if a reader that is bad by that error reads something, or becomes another one by it.
func readsNothing(t *testing.T, what string, r *varint.Reader, bad api.Errno) {
	t.Helper()
	stands(t, what, r, 0, bad)
	if n := r.Int(); n != 0 {
		t.Errorf("%s: Int() = %d of a bad reader", what, n)
	}
	if b := r.Byte(); b != 0 {
		t.Errorf("%s: Byte() = %d of a bad reader", what, b)
	}
	for _, n := range []uint64{0, 1, 2, math.MaxUint64} {
		if b := r.Bytes(n); len(b) != 0 {
			t.Errorf("%s: Bytes(%d) = %x of a bad reader", what, n, b)
		}
	}
	stands(t, what, r, 0, bad)
}

func TestIntStandsBehindEachInteger(t *testing.T) {
	var all []byte
	for _, x := range edges {
		all = append(all, x.b...)
	}
	r, left := varint.Read(all), len(all)
	for _, x := range edges {
		stands(t, "ahead of an integer", r, left, api.OK)
		if got := r.Int(); got != x.n {
			t.Errorf("Int() = %d, want %d", got, x.n)
		}
		left -= len(x.b)
	}
	stands(t, "behind all", r, 0, api.OK)
	if got := r.Int(); got != 0 {
		t.Errorf("Int() = %d where nothing stands", got)
	}
	readsNothing(t, "behind all", r, api.ErrShort)
}

func TestIntReadsWhatIsLongerThanItTakes(t *testing.T) {
	for _, x := range []struct {
		b []byte
		n uint64
	}{
		{[]byte{0x40, 0x25}, 37},
		{[]byte{0x40, 0x00}, 0},
		{[]byte{0x80, 0, 0, 0x25}, 37},
		{[]byte{0x80, 0, 0x3f, 0xff}, 16383},
		{[]byte{0xc0, 0, 0, 0, 0, 0, 0, 0}, 0},
		{[]byte{0xc0, 0, 0, 0, 0x3f, 0xff, 0xff, 0xff}, 1<<30 - 1},
	} {
		r := varint.Read(append(x.b, 9))
		if got := r.Int(); got != x.n {
			t.Errorf("Int() of %x = %d, want %d", x.b, got, x.n)
		}
		stands(t, "behind a long integer", r, 1, api.OK)
	}
}

func TestIntOfWhatIsCutOff(t *testing.T) {
	for _, x := range edges {
		for n := range x.b {
			r := varint.Read(x.b[:n])
			if got := r.Int(); got != 0 {
				t.Errorf("Int() of %x = %d, want 0", x.b[:n], got)
			}
			readsNothing(t, "cut off", r, api.ErrShort)
		}
	}
}

// TestIntOfEachFirstByte holds the reader against the document's words, bit by bit, of each first byte and of so many bytes.
func TestIntOfEachFirstByte(t *testing.T) {
	others := []byte{0x12, 0x00, 0xfe, 0x80, 0x7f, 0xff, 0x01, 0xa5, 0x5a}
	for first := range 256 {
		for count := range len(others) + 1 {
			text := append([]byte{byte(first)}, others[:count]...)
			size := lengths[first/64]
			var want uint64
			left, bad := len(text)-size, api.OK
			if size > len(text) {
				left, bad = 0, api.ErrShort
			} else {
				want = uint64(first % 64)
				for _, b := range text[1:size] {
					want = want*256 + uint64(b)
				}
			}
			r := varint.Read(text)
			if got := r.Int(); got != want {
				t.Errorf("Int() of %x = %d, want %d", text, got, want)
			}
			stands(t, "behind it", r, left, bad)
		}
	}
}

func TestByte(t *testing.T) {
	r := varint.Read([]byte{0x00, 0xff, 0x40})
	for i, want := range []byte{0x00, 0xff, 0x40} {
		stands(t, "ahead of a byte", r, 3-i, api.OK)
		if got := r.Byte(); got != want {
			t.Errorf("Byte() = %x, want %x", got, want)
		}
	}
	stands(t, "behind all", r, 0, api.OK)
	if got := r.Byte(); got != 0 {
		t.Errorf("Byte() = %x where nothing stands", got)
	}
	readsNothing(t, "behind all", r, api.ErrShort)
}

func TestBytes(t *testing.T) {
	r := varint.Read([]byte{1, 2, 3, 4, 5})
	for _, want := range [][]byte{{}, {1}, {2, 3}, {}, {4, 5}, {}} {
		if got := r.Bytes(uint64(len(want))); !bytes.Equal(got, want) {
			t.Errorf("Bytes(%d) = %x, want %x", len(want), got, want)
		}
	}
	stands(t, "behind all", r, 0, api.OK)
	if got := r.Bytes(1); len(got) != 0 {
		t.Errorf("Bytes(1) = %x where nothing stands", got)
	}
	readsNothing(t, "behind all", r, api.ErrShort)
}

func TestBytesOfMoreThanThereAre(t *testing.T) {
	for _, n := range []uint64{4, 5, 256, 1<<31 + 2, 1 << 32, 1<<32 + 2, 1<<63 - 1, 1 << 63, 1<<63 + 1, math.MaxUint64 - 2, math.MaxUint64} {
		r := varint.Read([]byte{1, 2, 3})
		if got := r.Bytes(n); len(got) != 0 {
			t.Errorf("Bytes(%d) of 3 bytes = %x, want none", n, got)
		}
		readsNothing(t, "more than there are", r, api.ErrShort)
	}
}

func TestReadOfNothing(t *testing.T) {
	for _, b := range [][]byte{nil, {}} {
		for _, read := range []func(r *varint.Reader){
			func(r *varint.Reader) { r.Int() },
			func(r *varint.Reader) { r.Byte() },
			func(r *varint.Reader) { r.Bytes(1) },
		} {
			r := varint.Read(b)
			stands(t, "of nothing", r, 0, api.OK)
			if got := r.Bytes(0); len(got) != 0 {
				t.Errorf("Bytes(0) = %x of nothing", got)
			}
			stands(t, "no bytes are there", r, 0, api.OK)
			read(r)
			readsNothing(t, "of nothing", r, api.ErrShort)
		}
	}
}

func TestFail(t *testing.T) {
	for _, e := range []api.Errno{api.ErrArg, api.ErrShort, api.ErrForm, api.ErrTwice, -1, 99} {
		r := varint.Read([]byte{7, 8, 9})
		r.Fail(api.OK)
		stands(t, "OK does nothing", r, 3, api.OK)
		if got := r.Byte(); got != 7 {
			t.Errorf("Byte() = %d behind Fail(OK), want 7", got)
		}
		r.Fail(e)
		readsNothing(t, "failed", r, e)
		for _, later := range []api.Errno{api.OK, api.ErrFlow, api.ErrShort, e} {
			r.Fail(later)
			readsNothing(t, "the first error holds", r, e)
		}
	}
}

func TestFailOfOneThatIsShort(t *testing.T) {
	r := varint.Read([]byte{0x80, 1})
	r.Int()
	r.Fail(api.ErrForm)
	readsNothing(t, "short ahead of Fail", r, api.ErrShort)
}

func TestNilReader(t *testing.T) {
	var r *varint.Reader
	readsNothing(t, "nil", r, api.ErrArg)
	for _, e := range []api.Errno{api.OK, api.ErrShort, api.ErrArg} {
		r.Fail(e)
		readsNothing(t, "nil, failed", r, api.ErrArg)
	}
}

func TestReadKeepsNothingOfWhatIsHandedIn(t *testing.T) {
	memory := []byte{0x7b, 0xbd, 5, 6, 7, 8, 9}
	text := memory[:4]
	r := varint.Read(text)
	spoil(text)
	if n, b, l := r.Int(), r.Byte(), r.Bytes(1); n != 15293 || b != 5 || !bytes.Equal(l, []byte{6}) {
		t.Errorf("read %d, %d, %x of a text that was changed behind Read", n, b, l)
	}
	stands(t, "the spare room isn't read", r, 0, api.OK)
}

func TestReadingChangesNothingOfWhatIsHandedIn(t *testing.T) {
	memory := []byte{0x7b, 0xbd, 5, 6, 7, 8, 9}
	want := bytes.Clone(memory)
	r := varint.Read(memory[:5])
	r.Int()
	r.Byte()
	spoil(r.Bytes(1))
	r.Fail(api.ErrForm)
	if !bytes.Equal(memory, want) {
		t.Errorf("what was handed in is %x, was %x", memory, want)
	}
}

func TestBytesAreNewMemory(t *testing.T) {
	r := varint.Read([]byte{1, 2, 3, 4, 5})
	first := r.Bytes(2)
	_ = append(first, 0xee, 0xee)
	spoil(first)
	second := r.Bytes(2)
	if !bytes.Equal(second, []byte{3, 4}) {
		t.Errorf("Bytes(2) = %x, want 0304, whatever became of those ahead", second)
	}
	spoil(r.Bytes(0))
	if got := r.Byte(); got != 5 || !bytes.Equal(second, []byte{3, 4}) {
		t.Errorf("Byte() = %d, want 5", got)
	}
}

func TestReadersGoOnByThemselves(t *testing.T) {
	text := []byte{1, 2, 3}
	one, other := varint.Read(text), varint.Read(text)
	one.Bytes(9)
	readsNothing(t, "short", one, api.ErrShort)
	stands(t, "another one of the same bytes", other, 3, api.OK)
	copied := *other
	if other.Byte() != 1 || copied.Byte() != 1 || copied.Byte() != 2 {
		t.Error("a copy by value doesn't read on by itself")
	}
	copied.Fail(api.ErrForm)
	stands(t, "a reader whose copy failed", other, 2, api.OK)
}

// P1.3

// someIntegers are integers of all sizes: each power of two, what is about it, and such as have all kinds of bits.
func someIntegers() []uint64 {
	all := []uint64{0, api.MaxInt}
	bits := uint64(0x9e3779b97f4a7c15)
	for i := range 62 {
		bits = bits*6364136223846793005 + 1442695040888963407
		one := uint64(1) << i
		all = append(all, one-1, one, one+1, bits>>(63-i)&api.MaxInt)
	}
	return all
}

func TestWhatIsPutIsReadAgain(t *testing.T) {
	var text []byte
	var want []uint64
	for _, n := range someIntegers() {
		short := varint.Put(n)
		if len(short) != varint.Size(n) || !slices.Contains(lengths, len(short)) {
			t.Fatalf("Put(%d) = %x of %d bytes", n, short, varint.Size(n))
		}
		text, want = append(text, short...), append(want, n)
		for _, size := range lengths {
			if b := varint.Wide(n, size); size < len(short) {
				if len(b) != 0 {
					t.Fatalf("Wide(%d, %d) = %x, which Put has more bytes of", n, size, b)
				}
			} else {
				if len(b) != size {
					t.Fatalf("Wide(%d, %d) = %x", n, size, b)
				}
				text, want = append(text, b...), append(want, n)
			}
		}
	}
	r := varint.Read(text)
	for i, n := range want {
		if got := r.Int(); got != n || r.Bad() != api.OK {
			t.Fatalf("number %d: read %d, bad by %d; put was %d", i, got, r.Bad(), n)
		}
	}
	stands(t, "behind all that was put", r, 0, api.OK)
}

// FuzzReader holds what is read of any bytes against what stands there.
func FuzzReader(f *testing.F) {
	for _, x := range edges {
		f.Add(x.b)
		f.Add(x.b[1:])
	}
	f.Fuzz(func(t *testing.T, text []byte) {
		r := varint.Read(text)
		for at := 0; ; {
			n := r.Int()
			if r.Bad() != api.OK {
				readsNothing(t, "short", r, api.ErrShort)
				if n != 0 || at < len(text) && len(text)-at >= lengths[text[at]>>6] {
					t.Fatalf("%x: an integer stands at %d, read was %d", text, at, n)
				}
				return
			}
			size := len(text) - at - r.Left()
			if !slices.Contains(lengths, size) || !bytes.Equal(varint.Wide(n, size), text[at:at+size]) {
				t.Fatalf("%x: at %d, %d of %d bytes", text, at, n, size)
			}
			at += size
		}
	})
}
