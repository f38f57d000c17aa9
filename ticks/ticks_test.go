package ticks_test

import (
	"math"
	"testing"

	"doorward/ticks"
)

// never is the greatest number of 64 bits, written down apart from the program's.
const never uint64 = 18446744073709551615

// someTimes are numbers of all sizes: each power of two, what is about it, what is below Never by as much, and such as have all kinds of bits.
func someTimes() []uint64 {
	all := []uint64{0, 3, 5, 10, 1000, 4294967291}
	drawn := uint64(0x9e3779b97f4a7c15)
	for i := range 64 {
		drawn = drawn*6364136223846793005 + 1442695040888963407
		one := uint64(1) << i
		all = append(all, one-1, one, one+1, never-one, never-one+1, drawn>>(63-i))
	}
	return all
}

// pair is two arguments, and what is answered.
type pair struct{ a, b, want uint64 }

// checkPairs holds a call of two numbers against what it ought to answer.
func checkPairs(t *testing.T, name string, call func(a, b uint64) uint64, pairs []pair) {
	t.Helper()
	for _, x := range pairs {
		if got := call(x.a, x.b); got != x.want {
			t.Errorf("%s(%d, %d) = %d, want %d", name, x.a, x.b, got, x.want)
		}
	}
}

// checkSwapped holds a call against itself with its numbers swapped.
func checkSwapped(t *testing.T, name string, call func(a, b uint64) uint64) {
	t.Helper()
	for _, a := range someTimes() {
		for _, b := range someTimes() {
			if call(a, b) != call(b, a) {
				t.Fatalf("%s(%d, %d) = %d, but %d of them swapped", name, a, b, call(a, b), call(b, a))
			}
		}
	}
}

func TestNeverIsTheGreatestNumber(t *testing.T) {
	if ticks.Never != never {
		t.Errorf("Never = %d", uint64(ticks.Never))
	}
	const beyond = ticks.Never + 1 // a constant without a type goes beyond 64 bits
	if beyond>>64 != 1 {
		t.Error("Never isn't 2^64 - 1")
	}
}

// P11.1

func TestAddOfOrdinaryNumbers(t *testing.T) {
	checkPairs(t, "Add", ticks.Add, []pair{
		{0, 0, 0}, {0, 1, 1}, {1, 0, 1}, {1, 2, 3}, {400, 31000, 31400},
		{1<<32 - 1, 1, 1 << 32}, {1 << 32, 1 << 32, 1 << 33}, {1 << 62, 1 << 62, 1 << 63},
		{0xffffffff00000000, 0xfffffffe, 0xfffffffffffffffe},
	})
}

func TestAddAboutNever(t *testing.T) {
	checkPairs(t, "Add", ticks.Add, []pair{
		{never, 0, never}, {0, never, never}, // Never exactly
		{never - 1, 1, never}, {1, never - 1, never}, {1 << 63, 1<<63 - 1, never}, {never / 2, never/2 + 1, never},
		{never - 1, 0, never - 1}, {never - 2, 1, never - 1}, {1<<63 - 1, 1<<63 - 1, never - 1}, // one less
		{never, 1, never}, {1, never, never}, {never - 1, 2, never}, {1 << 63, 1 << 63, never}, {never - 1, never - 1, never}, {never, never, never}, // more
	})
}

func TestAddOfAllSizes(t *testing.T) {
	for _, a := range someTimes() {
		checkPairs(t, "Add", ticks.Add, []pair{{a, 0, a}, {a, never - a, never}, {a, never, never}})
		if a > 0 {
			checkPairs(t, "Add", ticks.Add, []pair{{a, never - a + 1, never}, {a - 1, never - a, never - 1}})
		}
	}
}

func TestAddIsTheSameSwapped(t *testing.T) { checkSwapped(t, "Add", ticks.Add) }

func TestTimesOfOrdinaryNumbers(t *testing.T) {
	checkPairs(t, "Times", ticks.Times, []pair{
		{0, 0, 0}, {0, 1, 0}, {1, 0, 0}, {1, 1, 1}, {3, 5, 15}, {400, 31000, 12400000},
		{1 << 31, 1 << 31, 1 << 62}, {1 << 32, 1 << 31, 1 << 63}, {1<<32 - 1, 1<<32 - 1, 1<<64 - 1<<33 + 1},
		{123456789, 987654321, 121932631112635269},
	})
}

func TestTimesAboutNever(t *testing.T) {
	checkPairs(t, "Times", ticks.Times, []pair{
		{1, never, never}, {never, 1, never}, {3, never / 3, never}, {never / 5, 5, never}, {1<<32 - 1, 1<<32 + 1, never}, {641, 28778071877862015, never}, // Never exactly
		{1, never - 1, never - 1}, {2, never / 2, never - 1}, {1<<63 - 1, 2, never - 1}, // one less
		{never / 2, 3, never}, {2, 1 << 63, never}, {1 << 32, 1 << 32, never}, {3, never/3 + 1, never}, {never, 2, never}, {2, never, never}, {never, never, never}, {never - 1, never - 1, never}, // more
	})
}

func TestTimesOfNoneIsNone(t *testing.T) {
	for _, a := range append(someTimes(), never) {
		checkPairs(t, "Times", ticks.Times, []pair{{0, a, 0}, {a, 0, 0}, {1, a, a}, {a, 1, a}})
	}
}

func TestTimesOfAllSizes(t *testing.T) {
	for _, a := range someTimes() {
		if a == 0 {
			continue
		}
		most := never / a
		checkPairs(t, "Times", ticks.Times, []pair{{a, most, never - never%a}})
		if most < never {
			checkPairs(t, "Times", ticks.Times, []pair{{a, most + 1, never}, {most + 1, a, never}})
		}
	}
}

func TestTimesIsTheSameSwapped(t *testing.T) { checkSwapped(t, "Times", ticks.Times) }

func TestTimesIsASumOfSoMany(t *testing.T) {
	for _, a := range someTimes() {
		sum := uint64(0)
		for n := range uint64(20) {
			if got := ticks.Times(a, n); got != sum {
				t.Fatalf("Times(%d, %d) = %d, but %d added so often is %d", a, n, got, a, sum)
			}
			sum = ticks.Add(sum, a)
		}
	}
}

func TestSub(t *testing.T) {
	checkPairs(t, "Sub", ticks.Sub, []pair{
		{5, 3, 2}, {31000, 400, 30600}, {1 << 32, 1, 1<<32 - 1}, {never, 1, never - 1}, {never, never - 1, 1}, {never, 1 << 63, 1<<63 - 1},
		{3, 5, 0}, {0, 1, 0}, {400, 31000, 0}, {0, never, 0}, {1, never, 0}, {never - 1, never, 0}, {1<<63 - 1, 1 << 63, 0}, // of less
	})
}

func TestSubOfAllSizes(t *testing.T) {
	for _, a := range append(someTimes(), never) {
		checkPairs(t, "Sub", ticks.Sub, []pair{{a, a, 0}, {a, 0, a}, {never, a, never - a}, {a, never, 0}})
		if a > 0 {
			checkPairs(t, "Sub", ticks.Sub, []pair{{a, a - 1, 1}, {a - 1, a, 0}, {a, 1, a - 1}, {0, a, 0}})
		}
	}
}

func TestSubTakesAwayWhatAddAdds(t *testing.T) {
	for _, a := range someTimes() {
		for _, b := range someTimes() {
			sum := ticks.Add(a, b)
			if sum < never && (ticks.Sub(sum, b) != a || ticks.Sub(sum, a) != b) {
				t.Fatalf("Sub(%d, %d) = %d, want %d", sum, b, ticks.Sub(sum, b), a)
			}
			if sum == never && ticks.Sub(never, a) > b {
				t.Fatalf("Add(%d, %d) is Never, with %d left", a, b, ticks.Sub(never, a))
			}
		}
	}
}

// backoff is a time, a count, and what is answered.
type backoff struct {
	time  uint64
	count int
	want  uint64
}

func checkBackoffs(t *testing.T, backoffs []backoff) {
	t.Helper()
	for _, x := range backoffs {
		if got := ticks.Backoff(x.time, x.count); got != x.want {
			t.Errorf("Backoff(%d, %d) = %d, want %d", x.time, x.count, got, x.want)
		}
	}
}

func TestBackoffOfOrdinaryTimes(t *testing.T) {
	checkBackoffs(t, []backoff{
		{0, 0, 0}, {0, 1, 0}, {0, 5, 0}, {0, 62, 0},
		{1, 0, 1}, {1, 1, 2}, {1, 5, 32}, {1, 62, 1 << 62},
		{3, 0, 3}, {3, 1, 6}, {3, 5, 96}, {3, 62, 13835058055282163712},
		{60, 0, 60}, {60, 1, 120}, {60, 2, 240}, {60, 3, 480}, {60, 10, 61440},
		{1 << 58, 5, 1 << 63}, {1<<59 - 1, 5, never - 31},
	})
}

func TestBackoffOfGreatTimes(t *testing.T) {
	checkBackoffs(t, []backoff{
		{never, 0, never}, {never, 1, never}, {never, 5, never}, {never, 62, never},
		{never - 1, 0, never - 1}, {never - 1, 1, never}, {never - 1, 5, never}, {never - 1, 62, never},
		{1 << 63, 0, 1 << 63}, {1 << 63, 1, never}, {1<<63 - 1, 1, never - 1}, {1 << 59, 5, never}, {1<<59 + 1, 5, never},
		{4, 62, never}, {5, 62, never}, {2, 62, 1 << 63},
	})
}

func TestBackoffByGreatCounts(t *testing.T) {
	checkBackoffs(t, []backoff{{1, 63, 1 << 63}, {2, 63, never}, {3, 63, never}, {never, 63, never}})
	for _, count := range []int{64, 65, 66, 96, 127, 128, 129, 192, 255, 256, 257, 1 << 16, 1<<31 - 1, 1 << 31, 1 << 32, 1<<32 + 1, 1 << 62, math.MaxInt - 63, math.MaxInt - 1, math.MaxInt} {
		checkBackoffs(t, []backoff{{1, count, never}, {2, count, never}, {3, count, never}, {1 << 63, count, never}, {never - 1, count, never}, {never, count, never}})
	}
}

func TestBackoffOfNoneIsNone(t *testing.T) {
	for _, count := range []int{math.MinInt, -1, 0, 1, 62, 63, 64, 65, 99, 1 << 32, math.MaxInt} {
		checkBackoffs(t, []backoff{{0, count, 0}})
	}
}

func TestBackoffByACountBelowOneIsTheTime(t *testing.T) {
	for _, count := range []int{0, -1, -2, -5, -9, -62, -63, -64, -65, -1 << 31, -1 << 32, -1<<32 + 1, math.MinInt + 1, math.MinInt + 64, math.MinInt} {
		for _, time := range append(someTimes(), never) {
			checkBackoffs(t, []backoff{{time, count, time}})
		}
	}
}

func TestBackoffIsTheTimeDoubledSoOften(t *testing.T) {
	for _, time := range someTimes() {
		doubled := time
		for count := range 200 {
			if got := ticks.Backoff(time, count); got != doubled {
				t.Fatalf("Backoff(%d, %d) = %d, want %d", time, count, got, doubled)
			}
			doubled = ticks.Add(doubled, doubled)
		}
	}
}

func TestPower(t *testing.T) {
	for n, want := range map[uint64]bool{
		0: false, 1: true, 2: true, 3: false, 4: true, 5: false, 6: false, 7: false, 8: true, 9: false, 12: false, 1000: false, 1024: true,
		1<<32 - 1: false, 1 << 32: true, 1<<32 + 1: false, 1 << 62: true, 3 << 62: false, 1<<63 - 1: false, 1 << 63: true, 1<<63 + 1: false, never - 1: false, never: false,
	} {
		if got := ticks.Power(n); got != want {
			t.Errorf("Power(%d) = %v", n, got)
		}
	}
}

func TestPowerOfOneBitAndOfTwo(t *testing.T) {
	for i := range 64 {
		one := uint64(1) << i
		if !ticks.Power(one) {
			t.Errorf("Power(%d) = false", one)
		}
		if i > 1 && (ticks.Power(one-1) || ticks.Power(one+1)) {
			t.Errorf("Power about %d is true", one)
		}
		for j := range i {
			if two := one | 1<<j; ticks.Power(two) {
				t.Errorf("Power(%d) = true", two)
			}
		}
	}
}

// P11.3

func TestNoMoreAreDueThanOneAndTheWholePartOfLog2(t *testing.T) {
	due := uint64(0)
	for n := uint64(1); n <= 1<<20; n++ {
		if ticks.Power(n) {
			due++
		}
		log2 := uint64(0)
		for n>>log2 > 1 {
			log2++
		}
		if due != 1+log2 {
			t.Fatalf("of %d things %d are due", n, due)
		}
	}
}

func TestOfAllThatThereMayBeNoMoreThan64AreDue(t *testing.T) {
	due := 0
	for _, n := range distinct(append(someTimes(), never)) {
		if ticks.Power(n) {
			due++
		}
	}
	if due != 64 {
		t.Errorf("%d are due", due)
	}
}

// distinct are numbers, each but once.
func distinct(all []uint64) []uint64 {
	seen := map[uint64]bool{}
	var once []uint64
	for _, n := range all {
		if !seen[n] {
			seen[n] = true
			once = append(once, n)
		}
	}
	return once
}
