package reasm_test

import (
	"bytes"
	"math"
	"reflect"
	"testing"

	"doorward/api"
	"doorward/reasm"
)

// The greatest place's end, and the greatest window, written down apart from the program's.
const (
	greatest uint64 = 4611686018427387903
	widest          = 100000
)

// piece is bytes that come.
type piece struct {
	off  uint64
	data string
	last bool
}

func bytesAt(off uint64, data string) piece { return piece{off: off, data: data} }
func lastAt(off uint64, data string) piece  { return piece{off: off, data: data, last: true} }

// bufferOf is a buffer to which pieces came.
func bufferOf(t *testing.T, window int, all ...piece) *reasm.Buffer {
	t.Helper()
	b := reasm.New(window)
	if b == nil {
		t.Fatalf("New(%d) is nil", window)
	}
	put(t, b, all...)
	return b
}

// put has pieces come, none of which may have an error.
func put(t *testing.T, b *reasm.Buffer, all ...piece) {
	t.Helper()
	for _, p := range all {
		if e := b.Put(p.off, []byte(p.data), p.last); e != api.OK {
			t.Fatalf("Put(%d, %q, %v) = %d", p.off, p.data, p.last, e)
		}
	}
}

// refuse fails the test, if a piece hasn't that error, or turns something.
func refuse(t *testing.T, b *reasm.Buffer, want api.Errno, all ...piece) {
	t.Helper()
	for _, p := range all {
		ahead := tell(b)
		if e := b.Put(p.off, []byte(p.data), p.last); e != want {
			t.Fatalf("Put(%d, %q, %v) = %d, want %d", p.off, p.data, p.last, e, want)
		}
		if behind := tell(b); !reflect.DeepEqual(ahead, behind) {
			t.Fatalf("Put(%d, %q, %v) turns %+v to %+v", p.off, p.data, p.last, ahead, behind)
		}
	}
}

// read fails the test, if other bytes are read.
func read(t *testing.T, b *reasm.Buffer, n int, want string) {
	t.Helper()
	if got := b.Read(n); string(got) != want {
		t.Fatalf("Read(%d) = %q, want %q", n, got, want)
	}
}

// told is all that a buffer tells of itself; of its places those near to its beginning.
type told struct {
	ready, held      int
	limit, top, size uint64
	known, done      bool
	has              [24]bool
}

func tell(b *reasm.Buffer) told {
	size, known := b.Size()
	x := told{b.Ready(), b.Held(), b.Limit(), b.Top(), size, known, b.Done(), [24]bool{}}
	for i := range x.has {
		x.has[i] = b.Has(uint64(i), uint64(i)+1)
	}
	return x
}

// places are the places of a text that have a mark.
func places(text string) (has [24]bool) {
	for i, x := range text {
		has[i] = x == 'x'
	}
	return has
}

// check fails the test, if a buffer tells another thing of itself.
func check(t *testing.T, b *reasm.Buffer, want told) {
	t.Helper()
	if got := tell(b); !reflect.DeepEqual(got, want) {
		t.Fatalf("%+v, want %+v", got, want)
	}
}

// P16.1

func TestABufferIsOfAWindowWithinItsLimits(t *testing.T) {
	for _, window := range []int{0, 1, 8, widest - 1, widest} {
		if b := reasm.New(window); b == nil {
			t.Errorf("New(%d) is nil", window)
		} else {
			check(t, b, told{limit: uint64(window)})
		}
	}
	for _, window := range []int{-1, -2, widest + 1, math.MinInt, math.MaxInt} {
		if b := reasm.New(window); b != nil {
			t.Errorf("New(%d) isn't nil", window)
		}
	}
}

func TestBytesThatComeInOrderAreRead(t *testing.T) {
	b := bufferOf(t, 10, bytesAt(0, "ab"))
	check(t, b, told{ready: 2, held: 2, limit: 10, top: 2, has: places("xx")})
	put(t, b, bytesAt(2, "cde"))
	check(t, b, told{ready: 5, held: 5, limit: 10, top: 5, has: places("xxxxx")})
	read(t, b, 5, "abcde")
	check(t, b, told{limit: 15, top: 5, has: places("xxxxx")})
	put(t, b, lastAt(5, "f"))
	check(t, b, told{ready: 1, held: 1, limit: 15, top: 6, size: 6, known: true, has: places("xxxxxx")})
	read(t, b, 5, "f")
	check(t, b, told{limit: 16, top: 6, size: 6, known: true, done: true, has: places("xxxxxx")})
}

func TestTheChaptersExample(t *testing.T) {
	b := bufferOf(t, 4, bytesAt(2, "cd"))
	check(t, b, told{held: 2, limit: 4, top: 4, has: places("--xx")})
	put(t, b, bytesAt(0, "ab"))
	check(t, b, told{ready: 4, held: 4, limit: 4, top: 4, has: places("xxxx")})
	read(t, b, 4, "abcd")
}

func TestPiecesComeInWhicheverOrder(t *testing.T) {
	all := []piece{bytesAt(0, "ab"), bytesAt(2, "c"), bytesAt(3, "def"), lastAt(6, "gh")}
	for _, order := range orders(len(all)) {
		b := bufferOf(t, 8)
		for _, i := range order {
			put(t, b, all[i])
		}
		check(t, b, told{ready: 8, held: 8, limit: 8, top: 8, size: 8, known: true, has: places("xxxxxxxx")})
		read(t, b, 8, "abcdefgh")
	}
}

// orders are all orders of so many things.
func orders(count int) [][]int {
	if count == 0 {
		return [][]int{nil}
	}
	var all [][]int
	for _, shorter := range orders(count - 1) {
		for at := range count {
			order := append(append([]int(nil), shorter[:at]...), count-1)
			all = append(all, append(order, shorter[at:]...))
		}
	}
	return all
}

func TestBytesThatComeAgainTurnNothing(t *testing.T) {
	b := bufferOf(t, 8, bytesAt(0, "ab"), bytesAt(4, "ef"))
	want := told{ready: 2, held: 4, limit: 8, top: 6, has: places("xx--xx")}
	check(t, b, want)
	put(t, b, bytesAt(0, "ab"), bytesAt(4, "ef"), bytesAt(1, "b"), bytesAt(5, "f"))
	check(t, b, want)
	read(t, b, 1, "a")
	put(t, b, bytesAt(0, "ab"), bytesAt(0, "a"))
	check(t, b, told{ready: 1, held: 3, limit: 9, top: 6, has: places("xx--xx")})
	read(t, b, 8, "b")
}

func TestTheFirstByteOfAPlaceStays(t *testing.T) {
	for _, x := range []struct {
		all  []piece
		want string
	}{
		{[]piece{bytesAt(0, "abcd"), bytesAt(0, "ABCD")}, "abcd"},
		{[]piece{bytesAt(1, "bc"), bytesAt(0, "ABCD")}, "AbcD"},
		{[]piece{bytesAt(2, "cd"), bytesAt(0, "ABC")}, "ABcd"},
		{[]piece{bytesAt(0, "ab"), bytesAt(1, "BCD")}, "abCD"},
		{[]piece{bytesAt(3, "d"), bytesAt(1, "b"), bytesAt(0, "ABCD")}, "AbCd"},
		{[]piece{bytesAt(0, "\x00b"), bytesAt(0, "AB"), bytesAt(2, "\x00"), bytesAt(2, "C")}, "\x00b\x00"},
		{[]piece{bytesAt(0, "ab"), lastAt(0, "ABCD"), lastAt(0, "abcd")}, "abCD"},
	} {
		b := bufferOf(t, 4, x.all...)
		if got := b.Held(); got != len(x.want) {
			t.Errorf("%d bytes are held, want %d", got, len(x.want))
		}
		read(t, b, 9, x.want)
	}
}

func TestWhatWasReadDoesNotComeAgain(t *testing.T) {
	b := bufferOf(t, 4, bytesAt(0, "abcd"))
	read(t, b, 3, "abc")
	put(t, b, bytesAt(0, "ABCDE"), bytesAt(1, "x"), bytesAt(2, "yz"))
	check(t, b, told{ready: 2, held: 2, limit: 7, top: 5, has: places("xxxxx")})
	read(t, b, 9, "dE")
	read(t, b, 9, "")
}

func TestReadIsOfAtMostSoManyBytes(t *testing.T) {
	b := bufferOf(t, 10, bytesAt(0, "abcdef"))
	for _, n := range []int{0, -1, math.MinInt} {
		read(t, b, n, "")
	}
	check(t, b, told{ready: 6, held: 6, limit: 10, top: 6, has: places("xxxxxx")})
	read(t, b, 1, "a")
	read(t, b, 2, "bc")
	check(t, b, told{ready: 3, held: 3, limit: 13, top: 6, has: places("xxxxxx")})
	read(t, b, 3, "def")
	check(t, b, told{limit: 16, top: 6, has: places("xxxxxx")})
	put(t, b, bytesAt(6, "gh"))
	read(t, b, math.MaxInt, "gh")
	for _, n := range []int{1, math.MaxInt, 0, -1} {
		read(t, b, n, "")
	}
	check(t, b, told{limit: 18, top: 8, has: places("xxxxxxxx")})
}

func TestReadGoesUpToAGap(t *testing.T) {
	b := bufferOf(t, 10, bytesAt(1, "b"))
	read(t, b, 9, "")
	put(t, b, bytesAt(0, "a"), bytesAt(4, "e"))
	read(t, b, 9, "ab")
	check(t, b, told{held: 1, limit: 12, top: 5, has: places("xx--x")})
	read(t, b, 9, "")
	put(t, b, bytesAt(3, "d"))
	read(t, b, 9, "")
	put(t, b, bytesAt(2, "c"))
	check(t, b, told{ready: 3, held: 3, limit: 12, top: 5, has: places("xxxxx")})
	read(t, b, 2, "cd")
	read(t, b, 2, "e")
}

func TestAnEndIsAtMostTheLimit(t *testing.T) {
	b := bufferOf(t, 4)
	refuse(t, b, api.ErrFlow, bytesAt(0, "abcde"), bytesAt(4, "e"), bytesAt(3, "de"), lastAt(4, "e"), bytesAt(5, ""), lastAt(5, ""), bytesAt(greatest-1, "x"), bytesAt(greatest, ""), lastAt(greatest, ""))
	put(t, b, bytesAt(3, "d"), bytesAt(4, ""), bytesAt(0, "abcd"))
	refuse(t, b, api.ErrFlow, bytesAt(0, "abcde"), bytesAt(4, "e"))
	read(t, b, 1, "a")
	put(t, b, bytesAt(4, "e"), bytesAt(5, ""))
	refuse(t, b, api.ErrFlow, bytesAt(5, "f"), bytesAt(4, "ef"), bytesAt(6, ""), lastAt(6, ""))
	read(t, b, 9, "bcde")
	put(t, b, bytesAt(8, "i"), bytesAt(5, "fghi"), lastAt(9, ""))
	refuse(t, b, api.ErrFlow, bytesAt(9, "j"), bytesAt(10, ""))
	read(t, b, 9, "fghi")
}

func TestAWindowOfNoneTakesNoBytes(t *testing.T) {
	b := bufferOf(t, 0, bytesAt(0, ""))
	refuse(t, b, api.ErrFlow, bytesAt(0, "a"), lastAt(0, "a"), bytesAt(1, ""), lastAt(1, ""))
	check(t, b, told{})
	put(t, b, lastAt(0, ""), bytesAt(0, ""), lastAt(0, ""))
	check(t, b, told{known: true, done: true})
	read(t, b, 1, "")
}

func TestTheWidestWindow(t *testing.T) {
	text := bytes.Repeat([]byte("abcdefg"), widest/7+2)
	b := bufferOf(t, widest)
	refuse(t, b, api.ErrFlow, bytesAt(0, string(text[:widest+1])), bytesAt(widest, "a"), bytesAt(widest+1, ""))
	put(t, b, bytesAt(1, string(text[1:widest])))
	check(t, b, told{held: widest - 1, limit: widest, top: widest, has: places("-xxxxxxxxxxxxxxxxxxxxxxx")})
	put(t, b, bytesAt(0, "a"))
	if b.Ready() != widest || b.Held() != widest || !b.Has(0, widest) || b.Has(0, widest+1) {
		t.Fatalf("%d could be read, %d are held", b.Ready(), b.Held())
	}
	refuse(t, b, api.ErrFlow, bytesAt(widest, "a"))
	read(t, b, widest-1, string(text[:widest-1]))
	put(t, b, bytesAt(widest, string(text[widest:widest+3])))
	read(t, b, widest, string(text[widest-1:widest+3]))
	if b.Limit() != 2*widest+3 || b.Held() != 0 || b.Top() != widest+3 {
		t.Fatalf("%+v", tell(b))
	}
}

func TestAnEndIsNoMoreThanTheGreatestInteger(t *testing.T) {
	for _, b := range []*reasm.Buffer{bufferOf(t, 0), bufferOf(t, 8), bufferOf(t, widest, bytesAt(0, "a")), bufferOf(t, 8, lastAt(0, "abc"))} {
		for _, last := range []bool{false, true} {
			refuse(t, b, api.ErrFlow, piece{greatest, "", last}, piece{greatest - 1, "a", last}, piece{greatest - 3, "abc", last})
			refuse(t, b, api.ErrArg, piece{greatest + 1, "", last}, piece{greatest, "a", last}, piece{greatest - 2, "abc", last}, piece{greatest + 1, "a", last})
			refuse(t, b, api.ErrArg, piece{math.MaxUint64, "", last}, piece{math.MaxUint64, "a", last}, piece{math.MaxUint64 - 1, "abc", last}, piece{math.MaxUint64 - 7, "abcdefgh", last})
		}
		if e := b.Put(greatest-99, make([]byte, 100), false); e != api.ErrArg {
			t.Errorf("Put of an end one above = %d", e)
		}
		if e := b.Put(greatest-100, make([]byte, 100), false); e != api.ErrFlow {
			t.Errorf("Put of the greatest end = %d", e)
		}
	}
}

func TestNoBytesCome(t *testing.T) {
	b := bufferOf(t, 8, bytesAt(0, ""))
	check(t, b, told{limit: 8})
	put(t, b, bytesAt(3, ""))
	check(t, b, told{limit: 8, top: 3})
	put(t, b, bytesAt(8, ""), bytesAt(2, ""))
	check(t, b, told{limit: 8, top: 8})
	refuse(t, b, api.ErrFlow, bytesAt(9, ""), lastAt(9, ""))
	put(t, b, lastAt(8, ""))
	check(t, b, told{limit: 8, top: 8, size: 8, known: true})
	for _, none := range [][]byte{nil, {}} {
		if e := b.Put(1, none, false); e != api.OK {
			t.Errorf("Put(1, none) = %d", e)
		}
	}
	check(t, b, told{limit: 8, top: 8, size: 8, known: true})
}

func TestNilBuffer(t *testing.T) {
	var b *reasm.Buffer
	for _, p := range []piece{bytesAt(0, ""), bytesAt(0, "a"), lastAt(0, ""), lastAt(3, "a"), bytesAt(greatest+1, "a")} {
		if e := b.Put(p.off, []byte(p.data), p.last); e != api.ErrArg {
			t.Errorf("Put(%d, %q, %v) = %d", p.off, p.data, p.last, e)
		}
	}
	for _, size := range []uint64{0, 1, greatest, greatest + 1} {
		if e := b.Final(size); e != api.ErrArg {
			t.Errorf("Final(%d) = %d", size, e)
		}
	}
	for _, n := range []int{-1, 0, 1, math.MaxInt} {
		if got := b.Read(n); len(got) != 0 {
			t.Errorf("Read(%d) = %q", n, got)
		}
	}
	check(t, b, told{})
	if b.Has(0, 0) || b.Has(5, 2) || b.Has(0, 1) {
		t.Error("it has places")
	}
}

func TestBuffersAreApart(t *testing.T) {
	a, b := bufferOf(t, 8, bytesAt(0, "abc")), bufferOf(t, 4, lastAt(2, "x"))
	read(t, a, 2, "ab")
	check(t, b, told{held: 1, limit: 4, top: 3, size: 3, known: true, has: places("--x")})
	put(t, b, bytesAt(0, "yz"))
	read(t, b, 9, "yzx")
	check(t, a, told{ready: 1, held: 1, limit: 10, top: 3, has: places("xxx")})
}
