package rtt_test

import (
	"testing"

	"doorward/rtt"
)

// The longest time, and the greatest number of 64 bits, written down apart from the program's.
const (
	longest uint64 = 1099511627776
	never   uint64 = 18446744073709551615
)

// told is what an estimator tells of answers.
type told struct{ smooth, spread, least, latest uint64 }

func tell(e *rtt.Estimator) told { return told{e.Smooth(), e.Var(), e.Least(), e.Latest()} }

func check(t *testing.T, e *rtt.Estimator, want told) {
	t.Helper()
	if got := tell(e); got != want {
		t.Fatalf("%+v, want %+v", got, want)
	}
}

// step is an answer, and what is told behind it.
type step struct {
	time, delay uint64
	want        told
}

// checkSteps goes through an estimator's answers.
func checkSteps(t *testing.T, e *rtt.Estimator, steps ...step) {
	t.Helper()
	for i, x := range steps {
		e.Take(x.time, x.delay)
		if got := tell(e); got != x.want {
			t.Fatalf("step %d: Take(%d, %d): %+v, want %+v", i, x.time, x.delay, got, x.want)
		}
	}
}

// behind is an estimator behind answers without delays.
func behind(times ...uint64) *rtt.Estimator {
	e := rtt.New(7777)
	for _, time := range times {
		e.Take(time, 0)
	}
	return e
}

// someTimes are times of all sizes, and what is more than a time may be.
func someTimes() []uint64 {
	all := []uint64{0, 3, 5, 10, 100, 333, 1000, 60000, longest - 2, longest + 2, 3 * longest, 1<<63 - 1, never - longest, never - 1, never}
	for i := range 64 {
		one := uint64(1) << i
		all = append(all, one-1, one, one+1)
	}
	return all
}

// aboveAll are numbers that count as the longest time.
func aboveAll() []uint64 {
	return []uint64{longest + 1, longest + 2, 2*longest - 1, 2 * longest, 2*longest + 1, 1 << 50, 1<<62 - 1, 1<<63 - 1, 1 << 63, 1<<63 + 5, never - longest, never - longest + 1, never - 1, never}
}

func TestMaxTimeIsTheLongestTime(t *testing.T) {
	if rtt.MaxTime != longest {
		t.Errorf("MaxTime = %d", uint64(rtt.MaxTime))
	}
}

// P14.1

func TestNewOfOrdinaryGuesses(t *testing.T) {
	for _, x := range []struct{ guess, smooth, spread uint64 }{
		{1, 1, 0}, {2, 2, 1}, {3, 3, 1}, {4, 4, 2}, {20, 20, 10}, {100, 100, 50}, {333, 333, 166}, {1 << 32, 1 << 32, 1 << 31}, {1<<32 + 1, 1<<32 + 1, 1 << 31},
		{longest - 2, longest - 2, longest/2 - 1}, {longest - 1, longest - 1, longest/2 - 1}, {longest, longest, longest / 2},
	} {
		check(t, rtt.New(x.guess), told{x.smooth, x.spread, 0, 0})
	}
}

func TestNewOfNoneIsOfOne(t *testing.T) {
	e := rtt.New(0)
	check(t, e, told{1, 0, 0, 0})
	if e.Probe(0, 0) != 2 || e.LossDelay() != 1 {
		t.Errorf("Probe(0, 0) = %d, LossDelay() = %d", e.Probe(0, 0), e.LossDelay())
	}
}

func TestNewAboveMaxTimeIsOfMaxTime(t *testing.T) {
	for _, guess := range append(aboveAll(), longest) {
		check(t, rtt.New(guess), told{longest, longest / 2, 0, 0})
	}
}

func TestTheFirstAnswerIsTakenAsItIs(t *testing.T) {
	for _, x := range []struct{ time, spread uint64 }{
		{0, 0}, {1, 0}, {2, 1}, {3, 1}, {10, 5}, {99, 49}, {100, 50}, {1<<33 + 1, 1 << 32}, {longest - 1, longest/2 - 1}, {longest, longest / 2},
	} {
		for _, guess := range []uint64{0, 1, 2, 99, 100, 101, 5000, longest - 1, longest, never} {
			for _, delay := range []uint64{0, 1, 2, 50, 99, 100, 101, longest - 1, longest, longest + 1, never} { // it is never taken off
				checkSteps(t, rtt.New(guess), step{x.time, delay, told{x.time, x.spread, x.time, x.time}})
			}
		}
	}
}

func TestTheFirstAnswerAboveMaxTimeIsMaxTime(t *testing.T) {
	for _, time := range aboveAll() {
		for _, delay := range []uint64{0, 5, longest, never} {
			checkSteps(t, rtt.New(10), step{time, delay, told{longest, longest / 2, longest, longest}})
		}
	}
}

func TestTheGuessCountsNoMoreBehindTheFirstAnswer(t *testing.T) {
	answers := [][2]uint64{{100, 30}, {160, 20}, {90, 0}, {400, 500}, {95, 5}, {120, 10}}
	one := rtt.New(1)
	others := []*rtt.Estimator{rtt.New(0), rtt.New(100), rtt.New(1 << 30), rtt.New(longest), rtt.New(never)}
	for i, x := range answers {
		one.Take(x[0], x[1])
		for _, e := range others {
			e.Take(x[0], x[1])
			if tell(e) != tell(one) || e.Probe(9, 2) != one.Probe(9, 2) || e.LossDelay() != one.LossDelay() {
				t.Fatalf("step %d: %+v, and %+v by another guess", i, tell(one), tell(e))
			}
		}
	}
}

func TestAnswersOneBehindTheOther(t *testing.T) {
	checkSteps(t, rtt.New(333),
		step{100, 50, told{100, 50, 100, 100}}, // the first one
		step{200, 60, told{105, 47, 100, 200}}, // 140 without the delay
		step{120, 60, told{106, 39, 100, 120}}, // the delay stays
		step{80, 0, told{102, 35, 80, 80}},
		step{1 << 50, 0, told{137438953561, 274877906944, 80, longest}},
	)
	checkSteps(t, rtt.New(1),
		step{1000, 0, told{1000, 500, 1000, 1000}},
		step{1000, 0, told{1000, 375, 1000, 1000}},
		step{1400, 400, told{1000, 281, 1000, 1400}},
		step{1400, 0, told{1050, 310, 1000, 1400}},
		step{600, 0, told{993, 345, 600, 600}},
		step{800, 200, told{943, 357, 600, 800}},
		step{800, 201, told{925, 303, 600, 800}},
	)
}

func TestLongerAnswers(t *testing.T) {
	checkSteps(t, rtt.New(50),
		step{80, 0, told{80, 40, 80, 80}},
		step{160, 0, told{90, 50, 80, 160}},
		step{320, 0, told{118, 95, 80, 320}},
		step{640, 0, told{183, 201, 80, 640}},
		step{1280, 0, told{320, 425, 80, 1280}},
	)
}

func TestShorterAnswers(t *testing.T) {
	checkSteps(t, rtt.New(50),
		step{1280, 0, told{1280, 640, 1280, 1280}},
		step{640, 0, told{1200, 640, 640, 640}},
		step{320, 0, told{1090, 700, 320, 320}},
		step{160, 0, told{973, 757, 160, 160}},
		step{0, 0, told{851, 811, 0, 0}},
	)
}

func TestVarIsOfSmoothAheadOfTheAnswer(t *testing.T) {
	checkSteps(t, behind(100), step{180, 0, told{110, 57, 100, 180}}) // 70 behind it would make 55
	checkSteps(t, behind(100), step{20, 0, told{90, 57, 20, 20}})
}

func TestVarIsAWholePartOfFour(t *testing.T) {
	for _, x := range []struct{ time, spread uint64 }{ // 3 * 50 and 0 to 9
		{100, 37}, {101, 37}, {102, 38}, {103, 38}, {104, 38}, {105, 38}, {106, 39}, {107, 39}, {108, 39}, {109, 39},
		{99, 37}, {98, 38}, {97, 38}, {96, 38}, {95, 38}, {94, 39}, {93, 39}, {92, 39}, {91, 39},
	} {
		e := behind(100)
		e.Take(x.time, 0)
		if got := e.Var(); got != x.spread {
			t.Errorf("Var() = %d behind 100 and %d, want %d", got, x.time, x.spread)
		}
	}
	for i, spread := range []uint64{6, 4, 3, 2, 1, 0, 0} { // 8, and each time three quarters of it
		e := behind(16)
		for range i + 1 {
			e.Take(16, 0)
		}
		check(t, e, told{16, spread, 16, 16})
	}
}

func TestSmoothIsAWholePartOfEight(t *testing.T) {
	for _, x := range []struct{ time, smooth uint64 }{
		{100, 100}, {101, 100}, {102, 100}, {103, 100}, {104, 100}, {105, 100}, {106, 100}, {107, 100}, {108, 101}, {109, 101}, {115, 101}, {116, 102},
		{99, 99}, {98, 99}, {97, 99}, {93, 99}, {92, 99}, {91, 98}, {84, 98}, {83, 97},
	} {
		e := behind(100)
		e.Take(x.time, 0)
		if got := e.Smooth(); got != x.smooth {
			t.Errorf("Smooth() = %d behind 100 and %d, want %d", got, x.time, x.smooth)
		}
	}
}

func TestADelayIsTakenOffAnAnswerThatIsLongEnough(t *testing.T) {
	for _, x := range []struct{ time, delay, smooth, spread uint64 }{ // behind an answer of 100, which is the least one
		{160, 60, 100, 37}, // just as long: 100
		{159, 60, 107, 52}, // one less: 159
		{161, 60, 100, 37}, // one more: 101
		{200, 60, 105, 47}, // 140
		{100, 0, 100, 37},
		{101, 1, 100, 37},
		{180, 80, 100, 37},
		{100, 1, 100, 37}, // nothing may be taken off the least one
		{120, 60, 102, 42},
		{120, 120, 102, 42},
		{120, 121, 102, 42},
		{500, 400, 100, 37},
		{500, 401, 150, 137},
		{500, 500, 150, 137}, // less would be left than the least one, though not less than 0
		{500, 501, 150, 137},
		{500, longest, 150, 137},
		{500, never, 150, 137},
	} {
		checkSteps(t, behind(100), step{x.time, x.delay, told{x.smooth, x.spread, 100, x.time}})
	}
}

func TestOfAnAnswerThatIsTheLeastNowNoDelayIsTakenOff(t *testing.T) {
	for _, x := range []struct{ time, smooth, spread uint64 }{{99, 99, 37}, {60, 95, 47}, {20, 90, 57}, {1, 87, 62}, {0, 87, 62}} {
		for _, delay := range []uint64{0, 1, 2, 20, 60, 99, 100, longest, never} {
			checkSteps(t, behind(100), step{x.time, delay, told{x.smooth, x.spread, x.time, x.time}})
		}
	}
}

func TestADelayIsHeldAgainstTheLeastOfAllAnswers(t *testing.T) {
	e := behind(100, 40, 100) // the least one is neither the first nor the last
	check(t, e, told{93, 41, 40, 100})
	checkSteps(t, e, step{100, 60, told{86, 44, 40, 100}}, step{100, 61, told{87, 36, 40, 100}})
}

func TestADelayOfAnAnswerWhereTheLeastTookNoTime(t *testing.T) {
	checkSteps(t, behind(0), step{80, 80, told{0, 0, 0, 80}}, step{80, 81, told{10, 20, 0, 80}}, step{80, 79, told{8, 17, 0, 80}})
}

func TestLeastIsOfTheTimesWithTheirDelays(t *testing.T) {
	checkSteps(t, behind(100),
		step{150, 50, told{100, 37, 100, 150}},
		step{140, 30, told{101, 30, 100, 140}},
		step{90, 20, told{99, 25, 90, 90}},
		step{95, 5, told{97, 21, 90, 95}},
	)
}

func TestLeastBehindAFirstAnswerOfNoTime(t *testing.T) {
	checkSteps(t, rtt.New(100), step{0, 0, told{0, 0, 0, 0}}, step{80, 0, told{10, 20, 0, 80}}, step{8, 0, told{9, 15, 0, 8}})
}

func TestTimesAboveMaxTimeCountAsThat(t *testing.T) {
	for _, time := range append(aboveAll(), longest) {
		checkSteps(t, behind(80),
			step{time, 0, told{137438953542, 274877906954, 80, longest}},
			step{time, 0, told{257698037821, 446676598774, 80, longest}},
		)
		checkSteps(t, behind(80), step{time, longest - 80, told{80, 30, 80, longest}})
		checkSteps(t, behind(80), step{time, longest - 79, told{137438953542, 274877906954, 80, longest}})
	}
}

func TestDelaysAboveMaxTimeCountAsThat(t *testing.T) {
	for _, delay := range append(aboveAll(), longest) {
		checkSteps(t, behind(0), // of no time, so that the longest delay may be taken off
			step{longest, delay, told{0, 0, 0, longest}},
			step{never, delay, told{0, 0, 0, longest}},
			step{longest - 1, delay, told{longest/8 - 1, longest/4 - 1, 0, longest - 1}},
		)
		checkSteps(t, behind(80), step{longest, delay, told{137438953542, 274877906954, 80, longest}}) // the sum doesn't go round
		checkSteps(t, behind(80), step{never, delay, told{137438953542, 274877906954, 80, longest}})
		checkSteps(t, behind(80), step{80, delay, told{80, 30, 80, 80}})
	}
}

func TestTheLongestAnswersDoNotGoRound(t *testing.T) {
	e, spread := rtt.New(never), longest/2
	e.Take(never, never)
	for range 200 {
		check(t, e, told{longest, spread, longest, longest})
		spread = 3 * spread / 4
		e.Take(never, 0)
	}
	e.Take(0, never)
	check(t, e, told{7 * (longest / 8), longest / 4, 0, 0})
	for range 200 { // the spread goes no further than times are apart
		e.Take(never, 0)
		e.Take(0, 0)
		if got := tell(e); got.smooth > longest || got.spread > longest {
			t.Fatalf("%+v", got)
		}
	}
}

func TestLatestIsTheLastAnswersWholeTime(t *testing.T) {
	e := rtt.New(100)
	for i, x := range []struct{ time, delay, want uint64 }{
		{0, 0, 0}, {100, 50, 100}, {200, 50, 200}, {100, 100, 100}, {30, 0, 30}, {0, 7, 0}, {1, 0, 1}, {longest, longest, longest}, {longest + 1, 0, longest}, {5, 0, 5}, {never, never, longest},
	} {
		e.Take(x.time, x.delay)
		if got := e.Latest(); got != x.want {
			t.Errorf("step %d: Latest() = %d, want %d", i, got, x.want)
		}
	}
}

func TestANilEstimatorTakesAndTellsNothing(t *testing.T) {
	var e *rtt.Estimator
	for _, time := range someTimes() {
		check(t, e, told{})
		for _, count := range []int{-5, 0, 1, 64} {
			if e.Probe(time, count) != 0 || e.LossDelay() != 0 {
				t.Fatalf("Probe(%d, %d) = %d, LossDelay() = %d", time, count, e.Probe(time, count), e.LossDelay())
			}
		}
		e.Take(time, time/2)
	}
	check(t, e, told{})
}

func TestWhatIsAskedChangesNothing(t *testing.T) {
	asked, other := rtt.New(50), rtt.New(50)
	for i, time := range someTimes() {
		delay := time / 3
		for range 3 {
			tell(asked)
			asked.Probe(delay, i%70)
			asked.LossDelay()
		}
		if tell(asked) != tell(other) {
			t.Fatalf("%+v, want %+v", tell(asked), tell(other))
		}
		asked.Take(time, delay)
		other.Take(time, delay)
	}
}

func TestEstimatorsAreApart(t *testing.T) {
	a, b := rtt.New(50), rtt.New(50)
	a.Take(100, 0)
	check(t, b, told{50, 25, 0, 0})
	b.Take(20, 0)
	check(t, a, told{100, 50, 100, 100})
	check(t, b, told{20, 10, 20, 20})
	check(t, rtt.New(50), told{50, 25, 0, 0})
}
