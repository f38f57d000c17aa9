package rtt_test

import (
	"math/rand"
	"testing"

	"doorward/rtt"
)

// P14.3

// answers draws answers' times and delays: near each other, of all sizes, and at the ends of what times may be.
func answers(draw *rand.Rand, count int) [][2]uint64 {
	base, within := draw.Uint64()>>(24+draw.Intn(40)), 1+draw.Intn(1000)
	var all [][2]uint64
	for range count {
		time := base + uint64(draw.Intn(within))
		switch draw.Intn(20) {
		case 0:
			time = draw.Uint64() >> draw.Intn(64)
		case 1:
			time = someTimes()[draw.Intn(len(someTimes()))]
		}
		delay := uint64(draw.Intn(within)) >> draw.Intn(10)
		switch draw.Intn(10) {
		case 0:
			delay = time - base // what is left is often just the least one, or one less
		case 1:
			delay = draw.Uint64() >> draw.Intn(64)
		}
		all = append(all, [2]uint64{time, delay})
	}
	return all
}

// checkBetween goes through answers, and fails the test where smooth doesn't lie between all of their times.
func checkBetween(t *testing.T, e *rtt.Estimator, all [][2]uint64) {
	t.Helper()
	least, greatest := never, uint64(0)
	for i, x := range all {
		e.Take(x[0], x[1])
		time := min(x[0], longest)
		least, greatest = min(least, time), max(greatest, time)
		if got := tell(e); got.smooth < least || got.smooth > greatest || got.least != least || got.latest != time {
			t.Fatalf("step %d: Take(%d, %d): %+v, of times from %d to %d", i, x[0], x[1], got, least, greatest)
		}
	}
}

func TestSmoothLiesBetweenTheLeastAndTheGreatestTime(t *testing.T) {
	draw := rand.New(rand.NewSource(14))
	for range 2000 {
		checkBetween(t, rtt.New(draw.Uint64()>>draw.Intn(64)), answers(draw, 50))
	}
}

func TestSmoothOfTimesThatAreNearLiesBetweenThem(t *testing.T) {
	for base := range uint64(20) {
		for apart := range uint64(5) {
			e := rtt.New(1000)
			var all [][2]uint64
			for i := range uint64(60) {
				all = append(all, [2]uint64{base + i%(apart+1), i % 7})
			}
			checkBetween(t, e, all)
		}
	}
}

func TestSmoothIsNeverBelowTheLeastWhateverThePeerTells(t *testing.T) {
	for _, delay := range []uint64{1, 50, 100, 1000, longest, never} {
		e := rtt.New(5)
		e.Take(100, 0)
		for i := range uint64(300) {
			e.Take(100+i%150, delay)
			if e.Smooth() < 100 {
				t.Fatalf("%+v, by a delay of %d", tell(e), delay)
			}
		}
	}
}

func TestSmoothReachesTheEndsOfAllTimes(t *testing.T) {
	e := rtt.New(5)
	e.Take(1000, 0)
	check(t, e, told{1000, 500, 1000, 1000})
	for range 100 {
		e.Take(10, 0)
	}
	if got := e.Smooth(); got != 10 { // whole parts go down to it
		t.Errorf("Smooth() = %d", got)
	}
	for range 100 {
		e.Take(1000, 0)
	}
	if got := e.Smooth(); got != 993 { // and up as near as they let it
		t.Errorf("Smooth() = %d", got)
	}
}

func TestAnswersThatAllTakeTheSameTimeAreToldAsThat(t *testing.T) {
	for _, time := range someTimes() {
		for _, guess := range []uint64{0, 1, 100, never} {
			e, same := rtt.New(guess), min(time, longest)
			for i := range 120 {
				ahead := e.Var()
				e.Take(time, 0)
				if got := tell(e); got.smooth != same || got.least != same || got.latest != same {
					t.Fatalf("step %d: %+v, of times that are %d", i, got, same)
				}
				if got := e.Var(); i > 0 && (got > ahead || got == ahead && got > 0) {
					t.Fatalf("step %d: Var() goes from %d to %d", i, ahead, got)
				}
			}
			check(t, e, told{same, 0, same, same})
			if e.Probe(0, 0) != same+1 || e.LossDelay() != max(same/8*9+same%8*9/8, 1) {
				t.Fatalf("Probe(0, 0) = %d, LossDelay() = %d, of times that are %d", e.Probe(0, 0), e.LossDelay(), same)
			}
		}
	}
}

func TestAnswersThatTakeTheSameTimeWithoutTheirDelaysAreToldAsThat(t *testing.T) {
	e := rtt.New(50)
	e.Take(100, 0)
	for i := range uint64(120) {
		e.Take(100+i, i)
		if e.Smooth() != 100 || e.Least() != 100 || e.Latest() != 100+i {
			t.Fatalf("step %d: %+v", i, tell(e))
		}
	}
	check(t, e, told{100, 0, 100, 219})
}

func TestBehindOtherAnswersVarStaysAsSmallAsWholePartsLetIt(t *testing.T) {
	for _, first := range []uint64{0, 1, 50, 99, 101, 200, 5000, longest} {
		e := rtt.New(50)
		e.Take(first, 0)
		for range 300 {
			e.Take(100, 0)
		}
		if got := tell(e); got.smooth < 93 || got.smooth > 100 || got.spread > 100-got.smooth {
			t.Errorf("%+v, behind %d", got, first)
		}
	}
}
