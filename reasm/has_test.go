package reasm_test

import (
	"math"
	"testing"

	"doorward/reasm"
)

// P16.2: Has, of more places than one; what else is told stands in the other tests along the way.

// checkHas fails the test, if all of these places should have come, or not all of them.
func checkHas(t *testing.T, b *reasm.Buffer, want bool, lo uint64, his ...uint64) {
	t.Helper()
	for _, hi := range his {
		if got := b.Has(lo, hi); got != want {
			t.Errorf("Has(%d, %d) = %v", lo, hi, got)
		}
	}
}

func TestHasOfNoPlaces(t *testing.T) {
	for _, b := range []*reasm.Buffer{bufferOf(t, 0), bufferOf(t, 8), bufferOf(t, 8, bytesAt(1, "b")), bufferOf(t, 8, lastAt(0, "ab"))} {
		checkHas(t, b, true, 0, 0)
		checkHas(t, b, true, 5, 5, 4, 1, 0)
		checkHas(t, b, true, greatest, greatest, 0)
		checkHas(t, b, true, math.MaxUint64, math.MaxUint64, math.MaxUint64-1, greatest, 0)
	}
}

func TestHasOfPlacesThatCameAndThatDidNot(t *testing.T) {
	b := bufferOf(t, 12, bytesAt(2, "cde"), bytesAt(7, "hi"), bytesAt(11, ""))
	checkHas(t, b, false, 0, 1, 2, 3, 9, 100)
	checkHas(t, b, false, 1, 2, 3, 5)
	checkHas(t, b, true, 2, 3, 4, 5)
	checkHas(t, b, false, 2, 6, 7, 8, 9)
	checkHas(t, b, true, 4, 5)
	checkHas(t, b, false, 5, 6, 8, 9)
	checkHas(t, b, true, 7, 8, 9)
	checkHas(t, b, false, 7, 10, 11, 12, math.MaxUint64)
	checkHas(t, b, false, 10, 11)
	checkHas(t, b, false, greatest-1, greatest)
	checkHas(t, b, false, math.MaxUint64-1, math.MaxUint64)
	checkHas(t, b, false, 0, greatest, math.MaxUint64)
	put(t, b, bytesAt(4, "efg"))
	checkHas(t, b, true, 2, 7, 8, 9)
	checkHas(t, b, false, 2, 10)
}

func TestHasOfPlacesThatWereRead(t *testing.T) {
	b := bufferOf(t, 12, bytesAt(0, "abcd"), bytesAt(5, "f"))
	read(t, b, 2, "ab")
	checkHas(t, b, true, 0, 1, 2, 3, 4)
	checkHas(t, b, true, 1, 2, 3, 4)
	checkHas(t, b, false, 0, 5, 6, math.MaxUint64)
	checkHas(t, b, false, 1, 5)
	read(t, b, 9, "cd")
	checkHas(t, b, true, 0, 2, 4)
	checkHas(t, b, true, 3, 4)
	checkHas(t, b, false, 0, 5, 6)
	checkHas(t, b, false, 4, 5, 6)
	checkHas(t, b, true, 5, 6)
	put(t, b, lastAt(4, "ef"))
	checkHas(t, b, true, 0, 5, 6)
	checkHas(t, b, false, 0, 7)
	read(t, b, 9, "ef")
	checkHas(t, b, true, 0, 6)
	checkHas(t, b, false, 0, 7)
	checkHas(t, b, false, 6, 7)
}
