package pnum_test

import (
	"bytes"
	"math"
	"testing"

	"doorward/api"
	"doorward/pnum"
)

// none stands where no number was acked, or got.
const none = -1

// halves are half the windows of 1 to 4 bytes, written down apart from the program's reckoning.
var halves = map[int]int64{1: 128, 2: 32768, 3: 8388608, 4: 2147483648}

// notNumbers are what is no packet number.
var notNumbers = []int64{math.MinInt64, math.MinInt64 + 1, -api.MaxInt - 1, -1 << 32, -257, -256, -255, -2, -1, api.MaxInt + 1, api.MaxInt + 2, api.MaxInt + 256, math.MaxInt64 - 1, math.MaxInt64}

// wrongSizes are numbers of bytes that no number is cut to.
var wrongSizes = []int{math.MinInt, math.MinInt + 1, -1 << 32, -1<<32 + 1, -4, -1, 0, 5, 6, 7, 8, 9, 16, 256, 257, 1 << 32, 1<<32 + 1, 1<<32 + 4, 1 << 61, 1<<61 + 1, math.MaxInt - 1, math.MaxInt}

// someNumbers are packet numbers of all sizes: each power of two, what is about it, what is below the greatest one by as much, and such as have all kinds of bits.
func someNumbers() []int64 {
	var all []int64
	bits := uint64(0x9e3779b97f4a7c15)
	for i := range 62 {
		bits = bits*6364136223846793005 + 1442695040888963407
		one := int64(1) << i
		all = append(all, one-1, one, one+1, api.MaxInt-one, api.MaxInt-one+1, int64(bits>>(63-i))&api.MaxInt)
	}
	return all
}

// P2.1

func TestLengthOfOrdinaryNumbers(t *testing.T) {
	for _, x := range []struct {
		n, acked int64
		want     int
	}{
		{0xac5c02, 0xabe8b3, 2},
		{0xace8fe, 0xabe8b3, 3},
		{0, none, 1},
		{1, none, 1},
		{1, 0, 1},
		{10, 3, 1},
		{1000, 990, 1},
		{1000, 3, 2},
		{1000, none, 2},
		{1 << 20, none, 3},
		{1 << 40, none, 4},
		{1 << 40, 1<<40 - 1, 1},
		{api.MaxInt, none, 4},
		{api.MaxInt, 0, 4},
		{api.MaxInt, api.MaxInt - 1, 1},
	} {
		if got := pnum.Length(x.n, x.acked); got != x.want {
			t.Errorf("Length(%d, %d) = %d, want %d", x.n, x.acked, got, x.want)
		}
	}
}

// distanceEdges are the distances about which one byte more is taken, and the greatest there are.
var distanceEdges = []struct {
	distance int64
	size     int
}{
	{1, 1}, {2, 1}, {63, 1}, {64, 1}, {126, 1}, {127, 1},
	{128, 2}, {129, 2}, {255, 2}, {256, 2}, {32766, 2}, {32767, 2},
	{32768, 3}, {32769, 3}, {65535, 3}, {65536, 3}, {8388606, 3}, {8388607, 3},
	{8388608, 4}, {8388609, 4}, {1<<24 - 1, 4}, {1 << 24, 4}, {1<<31 - 1, 4},
	{1 << 31, 4}, {1<<31 + 1, 4}, {1<<32 - 1, 4}, {1 << 32, 4}, {1<<32 + 1, 4}, {1 << 40, 4}, {api.MaxInt, 4},
}

func TestLengthOfEachDistance(t *testing.T) {
	for _, x := range distanceEdges {
		for _, acked := range []int64{0, 1, 127, 128, 255, 256, 1 << 33, api.MaxInt - x.distance - 1, api.MaxInt - x.distance} {
			if acked < 0 || acked > api.MaxInt-x.distance {
				continue
			}
			if got := pnum.Length(acked+x.distance, acked); got != x.size {
				t.Errorf("Length(%d, %d) = %d, want %d", acked+x.distance, acked, got, x.size)
			}
		}
	}
}

func TestLengthWithNoneAckedIsOfItAndOne(t *testing.T) {
	for _, x := range distanceEdges {
		if got := pnum.Length(x.distance-1, none); got != x.size {
			t.Errorf("Length(%d, none) = %d, want %d", x.distance-1, got, x.size)
		}
	}
}

func TestLengthIsSoManyBitsAndOneMore(t *testing.T) {
	for _, n := range someNumbers() {
		for _, acked := range append(someNumbers(), none, n-1, n-128, n-32768) {
			if acked < none || acked >= n {
				continue
			}
			bits := 1
			for distance := n - acked; distance > 0; distance /= 2 {
				bits++
			}
			want := min((bits+7)/8, 4)
			if got := pnum.Length(n, acked); got != want {
				t.Fatalf("Length(%d, %d) = %d, want %d", n, acked, got, want)
			}
		}
	}
}

func TestLengthOfWhatIsNoNumber(t *testing.T) {
	for _, n := range notNumbers {
		for _, acked := range append([]int64{0, 5, 1 << 40, api.MaxInt - 1, api.MaxInt, n - 1}, notNumbers...) {
			if got := pnum.Length(n, acked); got != 0 {
				t.Errorf("Length(%d, %d) = %d, want 0", n, acked, got)
			}
		}
	}
}

func TestLengthOfAnAckedOneThatMayNotBe(t *testing.T) {
	for _, n := range []int64{0, 1, 5, 127, 128, 1 << 33, api.MaxInt - 1, api.MaxInt} {
		for _, acked := range []int64{n, n + 1, n + 2, n + 128, n + 256, n + 1<<32, api.MaxInt, api.MaxInt + 1, math.MaxInt64, -2, -3, -128, -256, -1 << 32, math.MinInt64 + 1, math.MinInt64} {
			if got := pnum.Length(n, acked); got != 0 {
				t.Errorf("Length(%d, %d) = %d, want 0", n, acked, got)
			}
		}
	}
}

func TestCut(t *testing.T) {
	for _, x := range []struct {
		n    int64
		size int
		want []byte
	}{
		{0, 1, []byte{0}},
		{0, 2, []byte{0, 0}},
		{0, 3, []byte{0, 0, 0}},
		{0, 4, []byte{0, 0, 0, 0}},
		{1, 1, []byte{1}},
		{1, 4, []byte{0, 0, 0, 1}},
		{255, 1, []byte{0xff}},
		{256, 1, []byte{0}},
		{256, 2, []byte{1, 0}},
		{0x12345678, 1, []byte{0x78}},
		{0x12345678, 2, []byte{0x56, 0x78}},
		{0x12345678, 3, []byte{0x34, 0x56, 0x78}},
		{0x12345678, 4, []byte{0x12, 0x34, 0x56, 0x78}},
		{0x0fedcba987654321, 4, []byte{0x87, 0x65, 0x43, 0x21}},
		{0xa82f9b32, 2, []byte{0x9b, 0x32}},
		{1 << 32, 4, []byte{0, 0, 0, 0}},
		{api.MaxInt - 1, 1, []byte{0xfe}},
		{api.MaxInt, 1, []byte{0xff}},
		{api.MaxInt, 4, []byte{0xff, 0xff, 0xff, 0xff}},
	} {
		if got := pnum.Cut(x.n, x.size); !bytes.Equal(got, x.want) {
			t.Errorf("Cut(%#x, %d) = %x, want %x", x.n, x.size, got, x.want)
		}
	}
}

func TestCutOfWhatIsNoNumberOrSize(t *testing.T) {
	for _, n := range notNumbers {
		for _, size := range append([]int{1, 2, 3, 4}, wrongSizes...) {
			if got := pnum.Cut(n, size); len(got) != 0 {
				t.Errorf("Cut(%d, %d) = %x, want none", n, size, got)
			}
		}
	}
	for _, n := range []int64{0, 1, 255, 1 << 40, api.MaxInt} {
		for _, size := range wrongSizes {
			if got := pnum.Cut(n, size); len(got) != 0 {
				t.Errorf("Cut(%d, %d) = %x, want none", n, size, got)
			}
		}
	}
}

func TestCutAnswersNewMemory(t *testing.T) {
	for size := 1; size <= 4; size++ {
		first, second := pnum.Cut(0x12345678, size), pnum.Cut(0x12345678, size)
		spoil(first)
		third := pnum.Cut(0x12345678, size)
		if !bytes.Equal(second, third) || third[size-1] != 0x78 {
			t.Errorf("%d bytes: an answer hangs on what became of another one", size)
		}
	}
}

// spoil writes to all of a slice's memory, its spare room included.
func spoil(b []byte) {
	b = b[:cap(b)]
	for i := range b {
		b[i] ^= 0xa5
	}
}

// P2.2

func TestFullOfOrdinaryNumbers(t *testing.T) {
	for _, x := range []struct {
		largest int64
		cut     []byte
		want    int64
	}{
		{0xa82f30ea, []byte{0x9b, 0x32}, 0xa82f9b32},
		{none, []byte{0}, 0},
		{0, []byte{1}, 1},
		{254, []byte{1}, 257},
		{255, []byte{0xff}, 255},
		{300, []byte{250}, 250},
		{1000, []byte{0xe9}, 1001},
		{0xabe8b3, []byte{0x5c, 0x02}, 0xac5c02},
		{0xabe8b3, []byte{0xac, 0xe8, 0xfe}, 0xace8fe},
		{0x123456789a, []byte{0x34, 0x56, 0x78, 0x9b}, 0x123456789b},
		{0x12fffffffe, []byte{0, 0, 0, 0}, 0x1300000000},
		{0x1300000000, []byte{0xff, 0xff, 0xff, 0xff}, 0x12ffffffff},
	} {
		if got := pnum.Full(x.largest, x.cut); got != x.want {
			t.Errorf("Full(%#x, %x) = %#x, want %#x", x.largest, x.cut, got, x.want)
		}
	}
}

func TestFullHalfAWindowOnEitherSide(t *testing.T) {
	for size, half := range halves {
		// Far enough from 0 and MaxInt for nothing to be bent back there.
		for _, expected := range []int64{1 << 33, 1<<33 + 1, 1<<33 - 1, 1<<40 + half, 1<<40 + half - 1, 0x123456789abcdef, 1 << 61} {
			for _, x := range []struct{ away, want int64 }{
				{0, 0}, {1, 1}, {-1, -1},
				{half - 1, half - 1}, {half, half}, {half + 1, 1 - half}, {half + 2, 2 - half},
				{1 - half, 1 - half}, {2 - half, 2 - half}, {-half, half}, {-half - 1, half - 1},
			} {
				cut := pnum.Cut(expected+x.away, size)
				if got := pnum.Full(expected-1, cut); got != expected+x.want {
					t.Errorf("%d bytes, %d from %d: told was %d from it, want %d", size, x.away, expected, got-expected, x.want)
				}
			}
		}
	}
}

func TestFullNearZero(t *testing.T) {
	for _, x := range []struct {
		largest int64
		cut     []byte
		want    int64
	}{
		{none, []byte{127}, 127},
		{none, []byte{128}, 128},
		{none, []byte{129}, 129},
		{none, []byte{255}, 255},
		{none, []byte{0xff, 0xff}, 0xffff},
		{none, []byte{0xff, 0xff, 0xff}, 0xffffff},
		{none, []byte{0xff, 0xff, 0xff, 0xff}, 0xffffffff},
		{0, []byte{0}, 0},
		{0, []byte{255}, 255},
		{0, []byte{130}, 130},
		{126, []byte{0}, 0},
		{127, []byte{0}, 256},
		{127, []byte{1}, 1},
		{127, []byte{255}, 255},
		{128, []byte{1}, 257},
		{255, []byte{128}, 384},
		{255, []byte{129}, 129},
		{256, []byte{129}, 385},
		{256, []byte{130}, 130},
	} {
		if got := pnum.Full(x.largest, x.cut); got != x.want {
			t.Errorf("Full(%d, %x) = %d, want %d", x.largest, x.cut, got, x.want)
		}
	}
}

func TestFullNearTheGreatestNumber(t *testing.T) {
	const most = api.MaxInt
	for _, x := range []struct {
		largest int64
		cut     []byte
		want    int64
	}{
		{most - 1, []byte{255}, most},
		{most - 2, []byte{255}, most},
		{most - 2, []byte{254}, most - 1},
		// There are none behind MaxInt, so these aren't told upwards.
		{most - 1, []byte{0}, most - 255},
		{most - 1, []byte{127}, most - 128},
		{most - 1, []byte{126}, most - 129},
		{most - 1, []byte{0, 0}, most - 0xffff},
		{most - 1, []byte{0, 0, 0, 0}, most - 0xffffffff},
		// c and the window are just MaxInt here, and then one more than that.
		{most - 129, []byte{255}, most},
		{most - 128, []byte{255}, most},
		{most - 127, []byte{0}, most - 255},
		{most - 256, []byte{127}, most - 128},
		{most - 256, []byte{255}, most - 256},
		{most - 257, []byte{127}, most - 128},
		// Behind the greatest one, MaxInt and 1 is expected: low bytes of that may be told.
		{most, []byte{0}, most + 1},
		{most, []byte{1}, most + 2},
		{most, []byte{128}, most + 129},
		{most, []byte{129}, most - 126},
		{most, []byte{255}, most},
		{most, []byte{0xff, 0xff, 0xff, 0xff}, most},
		{most, []byte{0x80, 0, 0, 0}, most + 1 + 1<<31},
		{most, []byte{0x80, 0, 0, 1}, most + 2 - 1<<31},
	} {
		if got := pnum.Full(x.largest, x.cut); got != x.want {
			t.Errorf("Full(MaxInt%+d, %x) = MaxInt%+d, want MaxInt%+d", x.largest-most, x.cut, got-most, x.want-most)
		}
	}
}

// nearest is what is told, said in another way than the chapter's: of the numbers with these low bytes, the one above expected less half a window, and not above expected and half of it, but for what lies outside of 0 to MaxInt.
func nearest(largest int64, cut []byte) int64 {
	var low int64
	for i, b := range cut {
		low += int64(b) << (8 * (len(cut) - 1 - i))
	}
	half := halves[len(cut)]
	expected := largest + 1
	least := expected - half + 1
	n := least + (low-least%(2*half)+4*half)%(2*half)
	if n < 0 {
		return n + 2*half
	}
	if n > api.MaxInt && expected <= api.MaxInt {
		return n - 2*half
	}
	return n
}

func TestFullIsTheNearest(t *testing.T) {
	for _, largest := range append(someNumbers(), none) {
		for size, half := range halves {
			for _, away := range []int64{-half - 1, -half, 1 - half, -half / 2, -1, 0, 1, half / 2, half - 1, half, half + 1, 2*half - 1} {
				low := uint64(largest + 1 + away)
				cut := []byte{byte(low >> 24), byte(low >> 16), byte(low >> 8), byte(low)}[4-size:]
				if got, want := pnum.Full(largest, cut), nearest(largest, cut); got != want {
					t.Fatalf("Full(%d, %x) = %d, want %d", largest, cut, got, want)
				}
			}
		}
	}
}

func TestFullOfEachByte(t *testing.T) {
	for _, first := range []int64{none, 1<<16 - 300, 1<<32 - 300, api.MaxInt - 600} {
		for largest := first; largest <= first+600; largest++ {
			for b := range 256 {
				cut := []byte{byte(b)}
				if got, want := pnum.Full(largest, cut), nearest(largest, cut); got != want {
					t.Fatalf("Full(%d, %x) = %d, want %d", largest, cut, got, want)
				}
			}
		}
	}
}

func TestFullOfAnotherNumberOfBytes(t *testing.T) {
	for _, largest := range append([]int64{none, 0, 5, 1 << 40, api.MaxInt}, notNumbers...) {
		for _, cut := range [][]byte{nil, {}, make([]byte, 5), {0, 0, 0, 0, 6}, make([]byte, 8), make([]byte, 256), make([]byte, 257)} {
			if got := pnum.Full(largest, cut); got != none {
				t.Errorf("Full(%d, %d bytes) = %d, want -1", largest, len(cut), got)
			}
		}
	}
}

func TestFullOfALargestThatMayNotBe(t *testing.T) {
	for _, largest := range notNumbers {
		if largest == none {
			continue
		}
		for size := 1; size <= 4; size++ {
			for _, b := range []byte{0, 1, 127, 128, 255} {
				if got := pnum.Full(largest, bytes.Repeat([]byte{b}, size)); got != none {
					t.Errorf("Full(%d, %d of %d) = %d, want -1", largest, size, b, got)
				}
			}
		}
	}
}

func TestFullNeitherChangesNorReadsBeyondTheCut(t *testing.T) {
	memory := []byte{0x9b, 0x32, 0xff, 0xff, 0xff}
	want := bytes.Clone(memory)
	if got := pnum.Full(0xa82f30ea, memory[:2]); got != 0xa82f9b32 {
		t.Errorf("Full(a82f30ea, 9b32) = %x, want a82f9b32", got)
	}
	if !bytes.Equal(memory, want) {
		t.Errorf("what was handed in is %x, was %x", memory, want)
	}
}

// P2.3

// tellsAgain fails the test, if a number that is cut to as many bytes as it takes isn't told again by who got that one as the greatest.
func tellsAgain(t *testing.T, n, acked, largest int64) {
	t.Helper()
	cut := pnum.Cut(n, pnum.Length(n, acked))
	if got := pnum.Full(largest, cut); got != n {
		t.Errorf("%d, where %d was acked, was cut to %x: told was %d, where %d was got", n, acked, cut, got, largest)
	}
}

// mostAhead is how far the greatest one that was got may be ahead of a number that is told: 'Words' has c and the window told, if c is at most expected (the greatest one and 1) less half the window, so it is two less than that half.
func mostAhead(size int) int64 { return halves[size] - 2 }

func TestACutNumberIsToldAgain(t *testing.T) {
	for _, n := range someNumbers() {
		for _, x := range distanceEdges {
			acked := n - x.distance
			// So great a distance isn't told by 4 bytes, and there are no more of them.
			if acked < none || x.distance > 1<<31+1 {
				continue
			}
			ahead := n + mostAhead(x.size)
			for _, largest := range []int64{acked, acked + 1, acked + x.distance/2, n - 1, n, n + 1, n + mostAhead(x.size)/2, ahead - 1, ahead} {
				if largest >= acked && largest <= ahead && largest <= api.MaxInt {
					tellsAgain(t, n, acked, largest)
				}
			}
		}
	}
}

func TestEachNearNumberIsToldAgain(t *testing.T) {
	for _, first := range []int64{0, 1<<16 - 150, api.MaxInt - 300} {
		for n := first; n <= first+300; n++ {
			for acked := max(none, n-300); acked < n; acked++ {
				ahead := min(n+mostAhead(pnum.Length(n, acked)), n+300, api.MaxInt)
				for largest := acked; largest <= ahead; largest += 7 {
					tellsAgain(t, n, acked, largest)
				}
			}
		}
	}
}

// TestWhatIsTooFarBehindIsAnotherNumber pins where telling ends, by what 'Words' has of c: one window more is told of what is half a window less one, or more, behind the greatest one.
func TestWhatIsTooFarBehindIsAnotherNumber(t *testing.T) {
	for size, half := range halves {
		for _, n := range []int64{0, 1, 127, 1000, 1 << 33, 1<<40 - 1} {
			cut := pnum.Cut(n, size)
			for _, ahead := range []int64{half - 1, half, half + 1} {
				if got := pnum.Full(n+ahead, cut); got != n+2*half {
					t.Errorf("%d, %d bytes, %d behind: told was %d, want %d", n, size, ahead, got, n+2*half)
				}
			}
		}
	}
}

func TestFewerBytesWouldNotTell(t *testing.T) {
	for _, x := range distanceEdges {
		if x.size == 1 {
			continue
		}
		acked, fewer := int64(1<<33), x.size-1
		if n := acked + x.distance; n <= api.MaxInt && x.distance > halves[fewer]+1 {
			if got := pnum.Full(acked, pnum.Cut(n, fewer)); got == n {
				t.Errorf("%d is told by %d bytes, where %d was got: it takes %d", n, fewer, acked, x.size)
			}
		}
	}
}

// FuzzPnum holds what any number is cut to, and told by, against what is nearest.
func FuzzPnum(f *testing.F) {
	f.Add(int64(0xac5c02), int64(0xabe8b3), int64(0xa82f30ea), []byte{0x9b, 0x32})
	f.Add(int64(0), int64(none), int64(none), []byte{0})
	f.Add(int64(api.MaxInt), int64(api.MaxInt-1), int64(api.MaxInt), []byte{0xff, 0xff, 0xff, 0xff})
	f.Fuzz(func(t *testing.T, n, acked, largest int64, cut []byte) {
		size := pnum.Length(n, acked)
		if isOne := 0 <= n && n <= api.MaxInt && none <= acked && acked < n; isOne != (size != 0) || size < 0 || size > 4 {
			t.Fatalf("Length(%d, %d) = %d", n, acked, size)
		}
		if size != 0 && n-acked <= 1<<31+1 {
			tellsAgain(t, n, acked, acked)
		}
		want := int64(none)
		if 1 <= len(cut) && len(cut) <= 4 && none <= largest && largest <= api.MaxInt {
			want = nearest(largest, cut)
		}
		if got := pnum.Full(largest, cut); got != want {
			t.Fatalf("Full(%d, %x) = %d, want %d", largest, cut, got, want)
		}
	})
}
