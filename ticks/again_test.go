package ticks_test

import (
	"math/big"
	"math/rand"
	"testing"

	"doorward/ticks"
)

// What follows holds the calls against the library's great numbers, which the program itself doesn't use, and against the chapter said once more in another way: a bucket by what happens in each tick.

// bigOf is a number without an end to its bits.
func bigOf(n uint64) *big.Int { return new(big.Int).SetUint64(n) }

// heldAgain is a great number within 0 and Never.
func heldAgain(n *big.Int) uint64 {
	if n.Sign() < 0 {
		return 0
	}
	if n.BitLen() > 64 {
		return never
	}
	return n.Uint64()
}

// backoffAgain is a time times 2 to the power of a count. From 64 doublings on it is 0, or Never.
func backoffAgain(t uint64, count int) uint64 {
	power := new(big.Int).Exp(big.NewInt(2), big.NewInt(int64(max(0, min(count, 64)))), nil)
	return heldAgain(power.Mul(power, bigOf(t)))
}

// powerAgain halves a number as long as it is even.
func powerAgain(n uint64) bool {
	for n > 1 && n%2 == 0 {
		n /= 2
	}
	return n == 1
}

// checkNumbers holds all calls of two numbers and a count against the same of great numbers.
func checkNumbers(t *testing.T, a, b uint64, count int) {
	t.Helper()
	if got, want := ticks.Add(a, b), heldAgain(new(big.Int).Add(bigOf(a), bigOf(b))); got != want {
		t.Fatalf("Add(%d, %d) = %d, want %d", a, b, got, want)
	}
	if got, want := ticks.Times(a, b), heldAgain(new(big.Int).Mul(bigOf(a), bigOf(b))); got != want {
		t.Fatalf("Times(%d, %d) = %d, want %d", a, b, got, want)
	}
	if got, want := ticks.Sub(a, b), heldAgain(new(big.Int).Sub(bigOf(a), bigOf(b))); got != want {
		t.Fatalf("Sub(%d, %d) = %d, want %d", a, b, got, want)
	}
	if got, want := ticks.Backoff(a, count), backoffAgain(a, count); got != want {
		t.Fatalf("Backoff(%d, %d) = %d, want %d", a, count, got, want)
	}
	if got, want := ticks.Power(a), powerAgain(a); got != want {
		t.Fatalf("Power(%d) = %v", a, got)
	}
}

func TestNumbersAreThoseOfGreatNumbers(t *testing.T) {
	all := append(someTimes(), never)
	for i, a := range all {
		for j, b := range all {
			checkNumbers(t, a, b, (i*7+j)%140-5)
		}
	}
}

func TestDrawnNumbersAreThoseOfGreatNumbers(t *testing.T) {
	draw := rand.New(rand.NewSource(11))
	for range 100000 {
		a, b := draw.Uint64()>>draw.Intn(64), draw.Uint64()>>draw.Intn(64)
		checkNumbers(t, a, b, draw.Intn(90)-10)
		checkNumbers(t, a, never-a+uint64(draw.Intn(5))-2, draw.Intn(90)-10)
	}
}

// bucketAgain is a bucket that goes through time tick by tick.
type bucketAgain struct {
	size, every  uint64
	tokens       uint64
	waited, time uint64
}

func newAgain(size, every uint64) *bucketAgain {
	return &bucketAgain{size: size, every: every, tokens: size}
}

// goTo lets time pass. While the bucket is full it doesn't wait for a token.
func (b *bucketAgain) goTo(now uint64) {
	for ; b.time < now; b.time++ {
		if b.tokens == b.size {
			continue
		}
		b.waited++
		if b.waited == b.every {
			b.waited = 0
			b.tokens++
		}
	}
}

func (b *bucketAgain) take(now uint64) bool {
	b.goTo(now)
	if b.tokens == 0 {
		return false
	}
	b.tokens--
	return true
}

func (b *bucketAgain) left(now uint64) uint64 {
	other := *b
	other.goTo(now)
	return other.tokens
}

// run is a script of a bucket: times that are small, what all of them are put off by, and what a tick is multiplied by.
type run struct {
	size, every uint64
	times       []uint64
	off, factor uint64
}

// check holds a bucket against one that goes tick by tick, with small times.
func (r run) check(t *testing.T) {
	t.Helper()
	b, again := ticks.NewBucket(r.size, r.every*r.factor), newAgain(r.size, r.every)
	for i, small := range r.times {
		now := r.off + small*r.factor
		if i%3 == 2 {
			if got, want := b.Left(now), again.left(small); got != want {
				t.Fatalf("%+v, step %d: Left(%d) = %d, want %d", r, i, now, got, want)
			}
			continue
		}
		if got, want := b.Take(now), again.take(small); got != want {
			t.Fatalf("%+v, step %d: Take(%d) = %v, want %v", r, i, now, got, want)
		}
	}
}

// checkAll holds a bucket against one that goes tick by tick: as it is, put off to just ahead of Never, and with ticks that are longer.
func checkAll(t *testing.T, size, every uint64, times []uint64) {
	t.Helper()
	last := uint64(1)
	for _, now := range times {
		last = max(last, now)
	}
	for _, factor := range []uint64{1, 2, 1000, never / max(last, every)} {
		run{size, every, times, 0, factor}.check(t)
		run{size, every, times, never - last*factor, factor}.check(t)
	}
}

func TestBucketsAreThoseThatGoTickByTick(t *testing.T) {
	draw := rand.New(rand.NewSource(11))
	for range 3000 {
		size, every := uint64(draw.Intn(6)), uint64(draw.Intn(12)+1)
		now, back, pause := 0, draw.Intn(4)*draw.Intn(10), draw.Intn(30)+1
		var times []uint64
		for range 60 {
			now += draw.Intn(pause)
			if draw.Intn(10) == 0 {
				now += draw.Intn(100)
			}
			times = append(times, uint64(max(0, now-draw.Intn(back+1))))
		}
		checkAll(t, size, every, times)
	}
}

func FuzzNumbers(f *testing.F) {
	f.Add(uint64(1), uint64(2), 3)
	f.Add(never-1, uint64(1), 63)
	f.Add(uint64(1)<<32, uint64(1)<<32, 64)
	f.Add(uint64(3), never/3, -9)
	f.Fuzz(func(t *testing.T, a, b uint64, count int) { checkNumbers(t, a, b, count) })
}

func FuzzBucket(f *testing.F) {
	f.Add(byte(3), byte(10), []byte{5, 5, 5, 5, 14, 15, 24, 25, 10, 35, 34, 99, 108, 109})
	f.Add(byte(1), byte(1), []byte{0, 0, 1, 1, 200, 200})
	f.Add(byte(0), byte(3), []byte{9, 9, 9})
	f.Fuzz(func(t *testing.T, size, every byte, small []byte) {
		var times []uint64
		for _, now := range small[:min(len(small), 300)] {
			times = append(times, uint64(now))
		}
		checkAll(t, uint64(size), uint64(every)+1, times)
		checkBound(t, uint64(size), uint64(every)+1, let(ticks.NewBucket(uint64(size), uint64(every)+1), times))
	})
}
