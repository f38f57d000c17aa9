package rtt_test

import (
	"math"
	"testing"

	"doorward/rtt"
)

// P14.2

// probe is a delay, a count, and the probe's time of them.
type probe struct {
	delay uint64
	count int
	want  uint64
}

func checkProbes(t *testing.T, e *rtt.Estimator, probes ...probe) {
	t.Helper()
	for _, x := range probes {
		if got := e.Probe(x.delay, x.count); got != x.want {
			t.Errorf("Probe(%d, %d) = %d of %+v, want %d", x.delay, x.count, got, tell(e), x.want)
		}
	}
}

func TestProbeOfAGuess(t *testing.T) {
	checkProbes(t, rtt.New(100), probe{0, 0, 300}) // the chapter's example
	for _, x := range []struct{ guess, want uint64 }{
		{0, 2}, {1, 2}, {2, 6}, {3, 7}, {4, 12}, {5, 13}, {10, 30}, {333, 997}, {longest, 3 * longest}, {longest + 1, 3 * longest}, {never, 3 * longest},
	} {
		checkProbes(t, rtt.New(x.guess), probe{0, 0, x.want}, probe{7, 0, x.want + 7})
	}
}

func TestProbeBehindAnswers(t *testing.T) {
	checkProbes(t, behind(100), probe{0, 0, 300}, probe{25, 0, 325})
	checkProbes(t, behind(100, 180), probe{0, 0, 110 + 4*57}, probe{25, 0, 110 + 4*57 + 25})
	checkProbes(t, behind(100, 20), probe{0, 0, 90 + 4*57}, probe{1, 1, 2 * (90 + 4*57 + 1)})
}

func TestProbeWhereFourTimesVarIsLessThanOne(t *testing.T) {
	none := behind(0)
	check(t, none, told{0, 0, 0, 0})
	checkProbes(t, none, probe{0, 0, 1}, probe{1, 0, 2}, probe{5, 0, 6}, probe{5, 3, 48}, probe{0, 3, 8})
	one := behind(1) // half of it is none
	check(t, one, told{1, 0, 1, 1})
	checkProbes(t, one, probe{0, 0, 2}, probe{1, 0, 3}, probe{5, 0, 7})
	still := behind(16, 16, 16, 16, 16, 16, 16)
	check(t, still, told{16, 0, 16, 16})
	checkProbes(t, still, probe{0, 0, 17}, probe{5, 0, 22}, probe{5, 1, 44})
}

func TestProbeWhereVarIsOneOrMore(t *testing.T) {
	checkProbes(t, behind(2), probe{0, 0, 6}, probe{5, 0, 11})
	checkProbes(t, behind(16, 16, 16, 16, 16, 16), probe{0, 0, 20}) // of 1
	checkProbes(t, behind(16, 16, 16, 16, 16), probe{0, 0, 24})     // of 2
	checkProbes(t, behind(16, 16, 16, 16), probe{0, 0, 28})         // of 3
	checkProbes(t, behind(0, longest), probe{0, 0, longest/8 + longest})
}

func TestProbeByCounts(t *testing.T) {
	e := rtt.New(10)
	checkProbes(t, e,
		probe{5, 0, 35}, probe{5, 1, 70}, probe{5, 2, 140}, probe{5, 3, 280}, probe{5, 10, 35840}, probe{5, 20, 35 << 20}, probe{5, 58, 35 << 58},
		probe{0, 1, 60}, probe{0, 4, 480}, // the delay is doubled, too
	)
}

func TestProbeByACountBelowOneIsNotDoubled(t *testing.T) {
	for _, count := range []int{0, -1, -2, -5, -63, -64, -65, -1 << 31, -1 << 32, -1<<32 + 1, math.MinInt + 1, math.MinInt} {
		checkProbes(t, rtt.New(10), probe{5, count, 35}, probe{0, count, 30}, probe{never, count, 30 + longest})
		checkProbes(t, behind(0), probe{0, count, 1})
	}
}

func TestProbeIsDoubledSoOften(t *testing.T) {
	for _, e := range []*rtt.Estimator{rtt.New(0), rtt.New(10), rtt.New(never), behind(0), behind(1), behind(7, 9, 12), behind(never, 0, never)} {
		for _, delay := range []uint64{0, 1, 5, longest, never} {
			want := e.Probe(delay, 0)
			for count := range 130 {
				checkProbes(t, e, probe{delay, count, want})
				if want > never/2 {
					want = never
				} else {
					want *= 2
				}
			}
		}
	}
}

func TestProbeDoublesNoFurtherThanNever(t *testing.T) {
	checkProbes(t, behind(0), probe{0, 63, 1 << 63}, probe{1, 62, 1 << 63})
	checkProbes(t, rtt.New(10), probe{5, 59, never}, probe{5, 60, never}, probe{5, 64, never}, probe{2, 59, never}, probe{2, 58, 1 << 63}, probe{1, 59, 31 << 59})
	for _, count := range []int{64, 65, 96, 127, 128, 129, 192, 256, 1 << 16, 1<<31 - 1, 1 << 31, 1 << 32, 1<<32 + 1, 1 << 62, math.MaxInt - 1, math.MaxInt} {
		checkProbes(t, behind(0), probe{0, count, never}, probe{5, count, never}, probe{never, count, never})
		checkProbes(t, rtt.New(10), probe{0, count, never}, probe{5, count, never}, probe{never, count, never})
		checkProbes(t, rtt.New(never), probe{0, count, never}, probe{never, count, never})
	}
}

func TestProbeHoldsTheDelay(t *testing.T) {
	e := rtt.New(10)
	checkProbes(t, e, probe{longest - 1, 0, 29 + longest}, probe{longest, 0, 30 + longest}, probe{longest, 1, 60 + 2*longest})
	for _, delay := range aboveAll() {
		checkProbes(t, e, probe{delay, 0, 30 + longest}, probe{delay, 1, 60 + 2*longest}, probe{delay, 3, 240 + 8*longest})
		checkProbes(t, behind(0), probe{delay, 0, 1 + longest})
		checkProbes(t, rtt.New(never), probe{delay, 0, 4 * longest}, probe{delay, 21, 1 << 63}, probe{delay, 22, never})
	}
}

func TestProbeOfTheGreatestVarDoesNotGoRound(t *testing.T) {
	e := behind(never)
	for range 100 { // back and forth, as far apart as times may be
		e.Take(0, 0)
		e.Take(never, 0)
		checkProbes(t, e, probe{never, 0, e.Smooth() + 4*e.Var() + longest})
		if e.Probe(never, 0) > 6*longest {
			t.Fatalf("Probe = %d", e.Probe(never, 0))
		}
	}
}

func checkLossDelay(t *testing.T, e *rtt.Estimator, want uint64) {
	t.Helper()
	if got := e.LossDelay(); got != want {
		t.Errorf("LossDelay() = %d of %+v, want %d", got, tell(e), want)
	}
}

func TestLossDelayIsAtLeastOne(t *testing.T) {
	checkLossDelay(t, rtt.New(0), 1)
	checkLossDelay(t, rtt.New(1), 1)
	checkLossDelay(t, behind(0), 1) // nine eighths of it are none
	checkLossDelay(t, behind(0, 0, 0), 1)
	checkLossDelay(t, behind(1), 1)
}

func TestLossDelayIsAWholePart(t *testing.T) {
	for time, want := range []uint64{1, 1, 2, 3, 4, 5, 6, 7, 9, 10, 11, 12, 13, 14, 15, 16, 18, 19} {
		checkLossDelay(t, behind(uint64(time)), want)
		checkLossDelay(t, rtt.New(uint64(time)), want)
	}
	checkLossDelay(t, behind(100), 112)
	checkLossDelay(t, behind(1000), 1125)
	checkLossDelay(t, behind(999), 1123)
}

func TestLossDelayOfTheGreaterOne(t *testing.T) {
	checkLossDelay(t, rtt.New(800), 900)        // none was answered
	checkLossDelay(t, behind(800), 900)         // both are the same
	checkLossDelay(t, behind(800, 80), 798)     // smooth, 710
	checkLossDelay(t, behind(800, 0), 787)      // smooth, 700
	checkLossDelay(t, behind(80, 800), 900)     // the last one; smooth is 170
	checkLossDelay(t, behind(0, 7), 7)          // the last one; smooth is 0
	checkLossDelay(t, behind(80, 800, 80), 177) // smooth, 158; what was ahead of the last one doesn't count
	checkLossDelay(t, behind(100, 101), 113)
}

func TestLossDelayIsOfTheLastAnswersWholeTime(t *testing.T) {
	e := behind(100)
	e.Take(180, 80) // adjusted it is 100
	check(t, e, told{100, 37, 100, 180})
	checkLossDelay(t, e, 202)
	e.Take(120, 0)
	checkLossDelay(t, e, 135)
}

func TestLossDelayOfLongTimes(t *testing.T) {
	const most = longest / 8 * 9
	for _, time := range append(aboveAll(), longest) {
		checkLossDelay(t, rtt.New(time), most)
		checkLossDelay(t, behind(time), most)
		checkLossDelay(t, behind(0, time), most)
		checkLossDelay(t, behind(time, 0), longest/64*63)
	}
	checkLossDelay(t, behind(longest-1), most-2)
}
