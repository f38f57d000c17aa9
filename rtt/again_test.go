package rtt_test

import (
	"encoding/binary"
	"math/big"
	"math/rand"
	"slices"
	"testing"

	"doorward/rtt"
)

// What follows holds the calls against the chapter said once more in another way: all answers are kept, and all that is told is reckoned of them from the first one on each time, by the library's great numbers.

// again is a guess, and all answers' times and delays.
type again struct {
	guess   uint64
	answers [][2]uint64
}

func great(n uint64) *big.Int { return new(big.Int).SetUint64(min(n, longest)) }

// parts is so many parts of a number and another one, and the whole part of a so manieth of that.
func parts(count int64, n, other *big.Int, of int64) *big.Int {
	sum := new(big.Int).Mul(big.NewInt(count), n)
	return sum.Div(sum.Add(sum, other), big.NewInt(of))
}

func (a *again) least(upTo int) *big.Int {
	var times []uint64
	for _, x := range a.answers[:upTo] {
		times = append(times, x[0])
	}
	return great(slices.Min(times))
}

// adjusted is the time of an answer, its delay taken off where what is left isn't less than the least one so far.
func (a *again) adjusted(i int) *big.Int {
	time, delay := great(a.answers[i][0]), great(a.answers[i][1])
	left := new(big.Int).Sub(time, delay)
	if left.Cmp(a.least(i+1)) < 0 {
		return time
	}
	return left
}

// smoothed are smooth and var of the first answers.
func (a *again) smoothed(upTo int) (smooth, spread *big.Int) {
	zero := new(big.Int)
	if upTo == 0 {
		guess := great(max(a.guess, 1))
		return guess, parts(1, guess, zero, 2)
	}
	smooth = great(a.answers[0][0])
	spread = parts(1, smooth, zero, 2)
	for i := 1; i < upTo; i++ {
		adjusted := a.adjusted(i)
		far := new(big.Int).Sub(smooth, adjusted)
		spread = parts(3, spread, far.Abs(far), 4)
		smooth = parts(7, smooth, adjusted, 8)
	}
	return smooth, spread
}

func (a *again) tell() told {
	smooth, spread := a.smoothed(len(a.answers))
	want := told{smooth: smooth.Uint64(), spread: spread.Uint64()}
	if len(a.answers) > 0 {
		want.least = a.least(len(a.answers)).Uint64()
		want.latest = min(a.answers[len(a.answers)-1][0], longest)
	}
	return want
}

// probe is the probe's time. From 64 doublings on there is no more of it than Never.
func (a *again) probe(delay uint64, count int) uint64 {
	smooth, spread := a.smoothed(len(a.answers))
	sum := spread.Mul(spread, big.NewInt(4))
	if sum.Sign() == 0 {
		sum = big.NewInt(1)
	}
	sum.Add(sum, smooth).Add(sum, great(delay))
	sum.Lsh(sum, uint(max(0, min(count, 64))))
	if sum.BitLen() > 64 {
		return never
	}
	return sum.Uint64()
}

func (a *again) lossDelay() uint64 {
	want := a.tell()
	greater := great(max(want.smooth, want.latest))
	return max(1, parts(9, greater, new(big.Int), 8).Uint64())
}

// check fails the test, if an estimator tells another thing.
func (a *again) check(t *testing.T, e *rtt.Estimator, delay uint64, count int) {
	t.Helper()
	if got, want := tell(e), a.tell(); got != want {
		t.Fatalf("%+v of %d, %v, want %+v", got, a.guess, a.answers, want)
	}
	if got, want := e.Probe(delay, count), a.probe(delay, count); got != want {
		t.Fatalf("Probe(%d, %d) = %d of %d, %v, want %d", delay, count, got, a.guess, a.answers, want)
	}
	if got, want := e.LossDelay(), a.lossDelay(); got != want {
		t.Fatalf("LossDelay() = %d of %d, %v, want %d", got, a.guess, a.answers, want)
	}
}

func TestDrawnAnswersAreThoseOfGreatNumbers(t *testing.T) {
	draw := rand.New(rand.NewSource(14))
	for range 1000 {
		a := &again{guess: draw.Uint64() >> draw.Intn(64)}
		e := rtt.New(a.guess)
		a.check(t, e, draw.Uint64()>>draw.Intn(64), draw.Intn(80)-8)
		for _, x := range answers(draw, 20) {
			e.Take(x[0], x[1])
			a.answers = append(a.answers, x)
			a.check(t, e, draw.Uint64()>>draw.Intn(64), draw.Intn(80)-8)
		}
	}
}

func TestFewAnswersOfSmallTimesAreThoseOfGreatNumbers(t *testing.T) {
	const most = 6
	for drawn := range most * most * most * most * most { // three times, and two delays
		digit := func(place int) uint64 {
			left := drawn
			for range place {
				left /= most
			}
			return uint64(left % most)
		}
		a := &again{guess: 4, answers: [][2]uint64{{digit(0), 1}, {digit(1), digit(2)}, {digit(3), digit(4)}}}
		e := rtt.New(a.guess)
		for _, x := range a.answers {
			e.Take(x[0], x[1])
		}
		a.check(t, e, digit(2), int(digit(1)))
	}
}

func FuzzEstimator(f *testing.F) {
	script := func(times ...uint64) []byte {
		var b []byte
		for _, x := range times {
			b = binary.BigEndian.AppendUint64(b, x)
		}
		return b
	}
	f.Add(uint64(333), uint64(5), 2, script(100, 50, 200, 60, 120, 60, 80, 0, 1<<50, 0))
	f.Add(uint64(0), uint64(0), 64, script(0, 0, 0, 0))
	f.Add(never, never, -1, script(never, never, 0, never, longest, longest, longest+1, longest-1))
	f.Add(longest, longest, 1, script(160, 60, 100, 0, 160, 60, 159, 60))
	f.Fuzz(func(t *testing.T, guess, delay uint64, count int, script []byte) {
		e, a := rtt.New(guess), &again{guess: guess}
		a.check(t, e, delay, count)
		for ; len(script) >= 16 && len(a.answers) < 30; script = script[16:] {
			x := [2]uint64{binary.BigEndian.Uint64(script), binary.BigEndian.Uint64(script[8:])}
			e.Take(x[0], x[1])
			a.answers = append(a.answers, x)
			a.check(t, e, delay, count)
		}
	})
}
