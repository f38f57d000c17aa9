package outflow_test

import (
	"math"
	"strings"
	"testing"

	"doorward/outflow"
)

// P17.2: what goes out next.

func TestNewBytesGoOutWholeAndInPieces(t *testing.T) {
	whole := bufferOf(t, 100, "abcdef")
	next(t, whole, 6, bytesAt(0, "abcdef"))
	none(t, whole, 6)
	pieces := bufferOf(t, 100, "abcdef")
	next(t, pieces, 1, bytesAt(0, "a"))
	next(t, pieces, 2, bytesAt(1, "bc"))
	check(t, pieces, told{written: 6, sent: 3, some: true, had: "------"})
	next(t, pieces, math.MaxInt, bytesAt(3, "def"))
	none(t, pieces, 6)
	check(t, pieces, tell(whole))
}

func TestNothingGoesOutOfMostBelowOne(t *testing.T) {
	lost := bufferOf(t, 9, "abc")
	next(t, lost, 9, bytesAt(0, "abc"))
	lost.Lost(0, 3, false)
	alone := bufferOf(t, 9, "")
	finish(t, alone, true)
	gone := bufferOf(t, 9, "abc")
	finish(t, gone, true)
	next(t, gone, 9, endAt(0, "abc"))
	gone.Lost(0, 0, true)
	for _, x := range []struct {
		b    *outflow.Buffer
		want piece
	}{
		{bufferOf(t, 9, "abc"), bytesAt(0, "a")}, {lost, bytesAt(0, "a")}, {alone, endAt(0, "")}, {gone, endAt(3, "")},
	} {
		none(t, x.b, 0, -1, -2, math.MinInt)
		if !x.b.Some() {
			t.Errorf("%+v", tell(x.b))
		}
		next(t, x.b, 1, x.want)
	}
}

// Of most one below, at and above how many there are, with the limit below, at and above what was written.
func TestMostAndTheLimit(t *testing.T) {
	text := "abcde"
	for limit := range uint64(8) {
		for most := 1; most < 8; most++ {
			for _, ends := range []bool{false, true} {
				b := bufferOf(t, limit, text)
				if ends {
					finish(t, b, true)
				}
				top := int(min(limit, 5))
				for at := 0; at < top; {
					to := min(at+most, top)
					next(t, b, most, piece{uint64(at), text[at:to], ends && to == 5})
					at = to
				}
				none(t, b, most)
				check(t, b, told{written: 5, sent: uint64(top), blocked: top < 5, had: "-----"})
			}
		}
	}
}

func TestLostBytesGoOutAheadOfNewOnes(t *testing.T) {
	b := bufferOf(t, 100, "abcdefgh")
	next(t, b, 5, bytesAt(0, "abcde"))
	b.Lost(1, 2, false)
	b.Lost(4, 1, false)
	next(t, b, 9, bytesAt(1, "bc"), bytesAt(4, "e"), bytesAt(5, "fgh"))
	none(t, b, 9)
	b.Lost(0, 8, false)
	next(t, b, 3, bytesAt(0, "abc"), bytesAt(3, "def"), bytesAt(6, "gh"))
	none(t, b, 3)
}

// Lost bytes that reach the new ones don't go out with these.
func TestLostBytesGoOutApartFromNewOnes(t *testing.T) {
	b := bufferOf(t, 100, "abcd")
	next(t, b, 2, bytesAt(0, "ab"))
	b.Lost(0, 2, false)
	finish(t, b, true)
	next(t, b, 9, bytesAt(0, "ab"), endAt(2, "cd"))
}

func TestLostBytesWithOthersBetween(t *testing.T) {
	b := bufferOf(t, 100, "abcdefghij")
	next(t, b, 10, bytesAt(0, "abcdefghij"))
	b.Acked(0, 1, false)
	b.Acked(4, 1, false)
	b.Lost(0, 4, false)
	b.Lost(4, 2, false)
	b.Lost(7, 1, false)
	b.Lost(9, 1, false)
	next(t, b, 2, bytesAt(1, "bc"), bytesAt(3, "d"), bytesAt(5, "f"), bytesAt(7, "h"), bytesAt(9, "j"))
	none(t, b, 2)
	b.Lost(2, 1, false)
	b.Lost(3, 1, false)
	next(t, b, 9, bytesAt(2, "cd"))
	check(t, b, told{written: 10, sent: 10, had: "a---a-----"})
}

func TestTheFirstLostOneGoesOutFirst(t *testing.T) {
	b := bufferOf(t, 100, "abcdef")
	next(t, b, 9, bytesAt(0, "abcdef"))
	b.Lost(4, 2, false)
	next(t, b, 1, bytesAt(4, "e"))
	b.Lost(1, 1, false)
	next(t, b, 9, bytesAt(1, "b"), bytesAt(5, "f"))
	none(t, b, 9)
}

func TestLostBytesOfMostNearToHowManyThereAre(t *testing.T) {
	for most := 1; most < 7; most++ {
		b := bufferOf(t, 6, "abcdefgh")
		next(t, b, 6, bytesAt(0, "abcdef"))
		b.Lost(1, 4, false)
		for at := 1; at < 5; {
			to := min(at+most, 5)
			next(t, b, most, bytesAt(uint64(at), "abcdefgh"[at:to]))
			at = to
		}
		none(t, b, most)
		check(t, b, told{written: 8, sent: 6, blocked: true, had: "--------"})
	}
}

func TestLostBytesJustBelowTheLimit(t *testing.T) {
	b := bufferOf(t, 2, "abcd")
	next(t, b, 9, bytesAt(0, "ab"))
	b.Lost(1, 3, false)
	next(t, b, 9, bytesAt(1, "b"))
	none(t, b, 9)
	raise(t, b, 3, true)
	b.Lost(0, 9, false)
	next(t, b, 9, bytesAt(0, "ab"), bytesAt(2, "c"))
	none(t, b, 9)
}

func TestTheEndGoesWithTheLastBytes(t *testing.T) {
	b := bufferOf(t, 9, "abcde")
	finish(t, b, true)
	next(t, b, 2, bytesAt(0, "ab"), bytesAt(2, "cd"), endAt(4, "e"))
	none(t, b, 2)
	whole := bufferOf(t, 9, "abcde")
	finish(t, whole, true)
	next(t, whole, 5, endAt(0, "abcde"))
	none(t, whole, 5)
}

func TestTheEndGoesAloneWhereAllIsOut(t *testing.T) {
	for _, became := range []func(b *outflow.Buffer){
		func(b *outflow.Buffer) {},
		func(b *outflow.Buffer) { b.Acked(0, 3, true) },
		func(b *outflow.Buffer) { b.Acked(1, 1, true) },
	} {
		b := bufferOf(t, 3, "abc")
		next(t, b, 9, bytesAt(0, "abc"))
		became(b)
		none(t, b, 9)
		finish(t, b, true)
		next(t, b, 1, endAt(3, ""))
		none(t, b, 1, 9)
	}
}

func TestTheEndIsNotAloneWhereAByteIsNew(t *testing.T) {
	b := bufferOf(t, 2, "abc")
	next(t, b, 9, bytesAt(0, "ab"))
	finish(t, b, true)
	none(t, b, 1, 9)
	check(t, b, told{written: 3, sent: 2, blocked: true, had: "---"})
	b.Lost(0, 1, true)
	next(t, b, 9, bytesAt(0, "a"))
	none(t, b, 9)
	b.Acked(0, 2, true)
	none(t, b, 9)
	raise(t, b, 3, true)
	next(t, b, 9, endAt(2, "c"))

	closed := bufferOf(t, 0, "a")
	finish(t, closed, true)
	none(t, closed, 1, 9)
}

func TestTheNewEndGoesBehindLostBytes(t *testing.T) {
	ahead := bufferOf(t, 9, "abc")
	next(t, ahead, 9, bytesAt(0, "abc"))
	finish(t, ahead, true)
	ahead.Lost(0, 2, true)
	next(t, ahead, 9, bytesAt(0, "ab"), endAt(3, ""))
	none(t, ahead, 9)
	reach := bufferOf(t, 9, "abc")
	next(t, reach, 9, bytesAt(0, "abc"))
	finish(t, reach, true)
	reach.Lost(1, 2, true)
	next(t, reach, 1, bytesAt(1, "b"), endAt(2, "c"))
	none(t, reach, 9)
}

// gone is a buffer with three bytes and the end out.
func gone(t *testing.T) *outflow.Buffer {
	t.Helper()
	b := bufferOf(t, 3, "abc")
	finish(t, b, true)
	next(t, b, 3, endAt(0, "abc"))
	return b
}

func TestBytesThatReachTheEndAreLostAgain(t *testing.T) {
	alone := gone(t)
	alone.Lost(1, 2, false)
	next(t, alone, 9, bytesAt(1, "bc"))
	none(t, alone, 9)
	acked := gone(t)
	acked.Acked(0, 0, true)
	acked.Lost(1, 2, true)
	next(t, acked, 9, bytesAt(1, "bc"))
	none(t, acked, 9)
	both := gone(t)
	both.Lost(1, 2, true)
	next(t, both, 9, endAt(1, "bc"))
	none(t, both, 9)
	pieces := gone(t)
	pieces.Lost(0, 3, true)
	next(t, pieces, 2, bytesAt(0, "ab"), endAt(2, "c"))
	none(t, pieces, 9)
}

func TestTheEndAloneIsLost(t *testing.T) {
	for _, acked := range []bool{false, true} {
		for _, off := range []uint64{0, 1, 3, 4, greatest, math.MaxUint64} {
			b := gone(t)
			if acked {
				b.Acked(0, 3, false)
			}
			b.Lost(off, 0, true)
			next(t, b, 1, endAt(3, ""))
			none(t, b, 1, 9)
		}
	}
}

func TestTheLostEndGoesBehindLostBytes(t *testing.T) {
	b := gone(t)
	b.Lost(0, 2, true)
	next(t, b, 9, bytesAt(0, "ab"), endAt(3, ""))
	none(t, b, 9)
	b.Lost(0, 1, true)
	b.Lost(2, 1, true)
	next(t, b, 9, bytesAt(0, "a"), endAt(2, "c"))
	none(t, b, 9)
}

func TestWhatIsOutGoesOutOnce(t *testing.T) {
	text := strings.Repeat("abcdefghij", 200)
	b := bufferOf(t, full, text)
	finish(t, b, true)
	for at := range full - 1 {
		next(t, b, 1, bytesAt(uint64(at), text[at:at+1]))
		if b.Sent() != uint64(at)+1 || !b.Some() || b.Blocked() {
			t.Fatalf("%+v", tell(b))
		}
	}
	next(t, b, 1, endAt(full-1, text[full-1:]))
	none(t, b, 1, full)
}
