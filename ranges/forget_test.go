package ranges_test

import (
	"slices"
	"testing"

	"doorward/api"
	"doorward/ranges"
)

// P13.2

// three is a set of the ranges from 10 to 12, from 20 to 22, and from 30 to 32.
func three(t *testing.T) *ranges.Set {
	t.Helper()
	return setOf(t, 10, 20, 30, 11, 21, 31, 12, 22, 32)
}

func TestForget(t *testing.T) {
	for _, x := range []struct {
		n    uint64
		gone int
		left []api.Range
	}{
		{0, 0, []api.Range{span(30, 32), span(20, 22), span(10, 12)}}, // below all
		{5, 0, []api.Range{span(30, 32), span(20, 22), span(10, 12)}},
		{9, 0, []api.Range{span(30, 32), span(20, 22), span(10, 12)}},
		{10, 0, []api.Range{span(30, 32), span(20, 22), span(11, 12)}}, // at its ends, and within
		{11, 0, []api.Range{span(30, 32), span(20, 22), span(12, 12)}},
		{12, 1, []api.Range{span(30, 32), span(20, 22)}},
		{13, 1, []api.Range{span(30, 32), span(20, 22)}}, // between two
		{16, 1, []api.Range{span(30, 32), span(20, 22)}},
		{19, 1, []api.Range{span(30, 32), span(20, 22)}},
		{20, 1, []api.Range{span(30, 32), span(21, 22)}},
		{21, 1, []api.Range{span(30, 32), span(22, 22)}},
		{22, 2, []api.Range{span(30, 32)}},
		{29, 2, []api.Range{span(30, 32)}},
		{30, 2, []api.Range{span(31, 32)}},
		{31, 2, []api.Range{span(32, 32)}},
		{32, 3, nil}, // at the greatest
		{33, 3, nil}, // above it
		{1 << 40, 3, nil},
		{greatest - 1, 3, nil},
		{greatest, 3, nil},
	} {
		s := three(t)
		forgets(t, s, x.n, x.gone)
		has(t, s, x.n+1, x.left...)
		forgets(t, s, x.n, 0) // twice
		has(t, s, x.n+1, x.left...)
		addNot(t, s, 0, x.n/2, x.n)
		has(t, s, x.n+1, x.left...)
	}
}

func TestForgetAboveMaxIntIsAtMaxInt(t *testing.T) {
	for _, n := range append(noNumbers(), greatest) {
		s := three(t)
		forgets(t, s, n, 3)
		has(t, s, greatest+1)
		addNot(t, s, someNumbers()...)
		forgets(t, s, n, 0)
		has(t, s, greatest+1)

		s = setOf(t, 5, greatest-1, greatest)
		forgets(t, s, n, 2)
		has(t, s, greatest+1)
		addNot(t, s, 5, greatest-1, greatest, greatest+1)

		s = new(ranges.Set)
		forgets(t, s, n, 0)
		has(t, s, greatest+1)
		addNot(t, s, someNumbers()...)
	}
}

func TestForgetNearMaxInt(t *testing.T) {
	s := setOf(t, greatest, greatest-1, greatest-2)
	forgets(t, s, greatest-2, 0)
	has(t, s, greatest-1, span(greatest-1, greatest))
	forgets(t, s, greatest-1, 0)
	has(t, s, greatest, span(greatest, greatest))
	forgets(t, s, greatest, 1)
	has(t, s, greatest+1)

	s = new(ranges.Set)
	forgets(t, s, greatest-1, 0)
	addNot(t, s, greatest-1)
	add(t, s, greatest)
	has(t, s, greatest, span(greatest, greatest))
}

func TestForgetOfASetOfNone(t *testing.T) {
	for _, n := range []uint64{0, 1, 6, 1 << 32, greatest - 2} {
		s := new(ranges.Set)
		forgets(t, s, n, 0)
		has(t, s, n+1)
		addNot(t, s, 0, n/2, n) // old, though they never came
		has(t, s, n+1)
		add(t, s, n+2)
		has(t, s, n+1, span(n+2, n+2))
		add(t, s, n+1)
		has(t, s, n+1, span(n+1, n+2))
	}
}

func TestForgetOfAZero(t *testing.T) {
	s := setOf(t, 0)
	forgets(t, s, 0, 1)
	has(t, s, 1)
	addNot(t, s, 0)
	s = setOf(t, 0, 1)
	forgets(t, s, 0, 0)
	has(t, s, 1, span(1, 1))
}

func TestForgetOfLessThanAhead(t *testing.T) {
	s := three(t)
	forgets(t, s, 20, 1)
	for _, n := range []uint64{19, 12, 11, 5, 0} {
		forgets(t, s, n, 0)
		has(t, s, 21, span(30, 32), span(21, 22))
	}
	addNot(t, s, 12, 13, 20)
}

func TestForgetOneByOne(t *testing.T) {
	s := three(t)
	for n := range uint64(40) {
		want := 0
		if n == 12 || n == 22 || n == 32 {
			want = 1
		}
		forgets(t, s, n, want)
		addNot(t, s, n)
		if s.Has(n) || s.Has(n+1) != slices.Contains([]uint64{10, 11, 12, 20, 21, 22, 30, 31, 32}, n+1) {
			t.Fatalf("behind Forget(%d) there are %v", n, s.Ranges())
		}
	}
	has(t, s, 40)
}

func TestLargestBehindForget(t *testing.T) {
	s := three(t)
	for _, x := range []struct {
		n    uint64
		want int64
	}{{5, 32}, {22, 32}, {31, 32}, {32, -1}, {100, -1}} {
		s.Forget(x.n)
		if got := s.Largest(); got != x.want {
			t.Fatalf("Largest() = %d behind Forget(%d), want %d", got, x.n, x.want)
		}
	}
	add(t, s, 101)
	has(t, s, 101, span(101, 101))
}

func TestAddBehindForgetTouchesWhatIsLeft(t *testing.T) {
	s := setOf(t, 5, 6, 7, 9, 10)
	forgets(t, s, 6, 0)
	has(t, s, 7, span(9, 10), span(7, 7))
	addNot(t, s, 3, 5, 6) // 6 touches 7, but is old
	has(t, s, 7, span(9, 10), span(7, 7))
	add(t, s, 8)
	has(t, s, 7, span(7, 10))
	forgets(t, s, 8, 0)
	has(t, s, 9, span(9, 10))
	forgets(t, s, 10, 1)
	has(t, s, 11)
}

func TestThereIsRoomBehindForget(t *testing.T) {
	all := every(100, 10, most)
	for gone := 1; gone <= most; gone++ {
		s := setOf(t, mixed(all)...)
		last := all[gone-1]
		forgets(t, s, last, gone)
		has(t, s, last+1, singles(reversed(all[gone:])...)...)
		more := every(1000, 10, gone)
		add(t, s, mixed(more)...)
		has(t, s, last+1, singles(reversed(append(slices.Clone(all[gone:]), more...))...)...)
		add(t, s, last+2) // the 17th, and the least
		has(t, s, last+3, singles(reversed(append(slices.Clone(all[gone:]), more...))...)...)
	}
}

func TestForgetBehindWhatWent(t *testing.T) {
	s := setOf(t, every(100, 10, most+1)...)
	want := singles(reversed(every(110, 10, most))...)
	has(t, s, 101, want...)
	for _, n := range []uint64{0, 50, 99, 100} { // they are old already
		forgets(t, s, n, 0)
		has(t, s, 101, want...)
	}
	forgets(t, s, 105, 0)
	has(t, s, 106, want...)
	addNot(t, s, 105)
	forgets(t, s, 110, 1)
	has(t, s, 111, want[:most-1]...)
	add(t, s, 111)
	has(t, s, 111, append(slices.Clone(want[:most-1]), span(111, 111))...)
	forgets(t, s, greatest, most)
	has(t, s, greatest+1)
}

func TestForgetOfSome(t *testing.T) {
	all := every(100, 10, most)
	for i := range all {
		for _, beyond := range []uint64{0, 1, 5, 9} {
			s := setOf(t, mixed(all)...)
			forgets(t, s, all[i]+beyond, i+1)
			has(t, s, all[i]+beyond+1, singles(reversed(all[i+1:])...)...)
			addNot(t, s, all[:i+1]...)
		}
	}
}
