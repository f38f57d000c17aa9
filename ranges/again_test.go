package ranges_test

import (
	"math/rand"
	"slices"
	"testing"

	"doorward/api"
	"doorward/ranges"
)

// What follows holds the calls against the chapter said once more in another way: each number by itself, and ranges put together of them each time.

// again is numbers, rising, and those of which something was told to be old.
type again struct {
	numbers []uint64
	old     []uint64 // each one, and all below
}

func (a *again) isOld(n uint64) bool {
	return slices.ContainsFunc(a.old, func(upTo uint64) bool { return n <= upTo })
}

// list is the ranges, the greatest first.
func (a *again) list() []api.Range {
	var list []api.Range
	for i, n := range a.numbers {
		if i == 0 || n-a.numbers[i-1] > 1 {
			list = append(list, span(n, n))
		}
		list[len(list)-1].Hi = n
	}
	slices.Reverse(list)
	return list
}

func (a *again) add(n uint64) bool {
	if n > greatest || a.isOld(n) || slices.Contains(a.numbers, n) {
		return false
	}
	a.numbers = append(a.numbers, n)
	slices.Sort(a.numbers)
	if list := a.list(); len(list) > most {
		a.forget(list[most].Hi)
	}
	return true
}

func (a *again) forget(n uint64) int {
	gone := 0
	for _, r := range a.list() {
		if r.Hi <= n {
			gone++
		}
	}
	a.numbers = slices.DeleteFunc(a.numbers, func(x uint64) bool { return x <= n })
	a.old = append(a.old, min(n, greatest))
	return gone
}

// check fails the test, if a set tells another thing of a number, or of all.
func (a *again) check(t *testing.T, s *ranges.Set, n uint64) {
	t.Helper()
	list, largest := a.list(), int64(-1)
	if len(list) > 0 {
		largest = int64(list[0].Hi)
	}
	if got := s.Ranges(); !slices.Equal(got, list) {
		t.Fatalf("Ranges() = %v, want %v", got, list)
	}
	if got := s.Largest(); got != largest {
		t.Fatalf("Largest() = %d, want %d", got, largest)
	}
	for _, x := range []uint64{n - 1, n, n + 1} {
		if got := s.Has(x); got != slices.Contains(a.numbers, x) {
			t.Fatalf("Has(%d) = %v, of %v", x, got, list)
		}
		if got := s.Old(x); got != a.isOld(x) {
			t.Fatalf("Old(%d) = %v, of %v", x, got, list)
		}
	}
}

// do adds a number, or forgets all up to it, in both, and fails the test, if they answer otherwise.
func (a *again) do(t *testing.T, s *ranges.Set, n uint64, forget bool) {
	t.Helper()
	ahead := a.list()
	if forget {
		if got, want := s.Forget(n), a.forget(n); got != want {
			t.Fatalf("Forget(%d) = %d, want %d, of %v", n, got, want, ahead)
		}
	} else if got, want := s.Add(n), a.add(n); got != want {
		t.Fatalf("Add(%d) = %v, of %v", n, got, ahead)
	}
	a.check(t, s, n)
}

func TestDrawnStepsAreThoseOfNumbersByThemselves(t *testing.T) {
	draw := rand.New(rand.NewSource(13))
	full := 0
	for range 400 {
		s, a := new(ranges.Set), &again{}
		base, within, forgets := uint64(0), 1+draw.Intn(100), draw.Intn(30)
		if draw.Intn(3) == 0 {
			base = greatest - uint64(draw.Intn(150))
		}
		for range 200 {
			n := base + uint64(draw.Intn(within))
			a.do(t, s, n, draw.Intn(1000) < forgets)
			if len(a.list()) == most {
				full++
			}
			if draw.Intn(3) == 0 { // what comes goes on
				base++
			}
		}
	}
	if full < 1000 {
		t.Errorf("only %d times there were 16 ranges", full)
	}
}

func FuzzSet(f *testing.F) {
	f.Add(uint64(0), []byte{0, 5, 0, 7, 0, 5, 0, 10, 0, 6, 1, 6, 0, 8})
	f.Add(greatest-20, []byte{0, 20, 0, 21, 0, 19, 1, 18, 0, 17, 1, 30, 0, 25})
	f.Add(uint64(100), []byte{0, 0, 0, 2, 0, 4, 0, 6, 0, 8, 0, 10, 0, 12, 0, 14, 0, 16, 0, 18, 0, 20, 0, 22, 0, 24, 0, 26, 0, 28, 0, 30, 0, 32, 0, 1, 0, 0, 0, 31})
	f.Fuzz(func(t *testing.T, base uint64, script []byte) {
		s, a := new(ranges.Set), &again{}
		for i := 0; i+1 < min(len(script), 600); i += 2 {
			a.do(t, s, base+uint64(script[i+1]), script[i]%8 == 1)
		}
	})
}
