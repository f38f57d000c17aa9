package ranges_test

import (
	"math/rand"
	"slices"
	"testing"

	"doorward/api"
	"doorward/ranges"
)

// greatest is the greatest number there may be, most how many ranges; both are written down apart from the program's.
const (
	greatest uint64 = 4611686018427387903
	most            = 16
)

// noNumbers are such as aren't any.
func noNumbers() []uint64 {
	return []uint64{greatest + 1, greatest + 2, 1<<63 - 1, 1 << 63, 1<<63 + 5, 1<<64 - 2, 1<<64 - 1}
}

// someNumbers are numbers of all sizes, those that aren't any too.
func someNumbers() []uint64 {
	return append([]uint64{0, 1, 2, 5, 6, 7, 100, 1<<32 - 1, 1 << 32, greatest / 2, greatest - 1, greatest}, noNumbers()...)
}

// span is a range.
func span(lo, hi uint64) api.Range { return api.Range{Lo: lo, Hi: hi} }

// singles are ranges of one number each.
func singles(all ...uint64) []api.Range {
	var list []api.Range
	for _, n := range all {
		list = append(list, span(n, n))
	}
	return list
}

// add adds numbers, and fails the test, if one isn't.
func add(t *testing.T, s *ranges.Set, all ...uint64) {
	t.Helper()
	for _, n := range all {
		if !s.Add(n) {
			t.Fatalf("Add(%d) = false, of %v", n, s.Ranges())
		}
	}
}

// addNot fails the test, if one of the numbers is added, or anything turns by it.
func addNot(t *testing.T, s *ranges.Set, all ...uint64) {
	t.Helper()
	for _, n := range all {
		ahead, old := s.Ranges(), s.Old(n)
		if s.Add(n) {
			t.Fatalf("Add(%d) = true, of %v", n, ahead)
		}
		if got := s.Ranges(); !slices.Equal(got, ahead) || s.Old(n) != old {
			t.Fatalf("behind Add(%d) there are %v, ahead of it %v", n, got, ahead)
		}
	}
}

// forgets fails the test, if Forget doesn't answer that.
func forgets(t *testing.T, s *ranges.Set, n uint64, want int) {
	t.Helper()
	if got := s.Forget(n); got != want {
		t.Fatalf("Forget(%d) = %d, want %d", n, got, want)
	}
}

// setOf is a set to which numbers were added.
func setOf(t *testing.T, all ...uint64) *ranges.Set {
	t.Helper()
	s := new(ranges.Set)
	add(t, s, all...)
	return s
}

// has fails the test, if there aren't just these ranges, or not just the numbers below young are old. All calls that only ask are asked.
func has(t *testing.T, s *ranges.Set, young uint64, want ...api.Range) {
	t.Helper()
	if got := s.Ranges(); !slices.Equal(got, want) {
		t.Fatalf("Ranges() = %v, want %v", got, want)
	}
	largest := int64(-1)
	asked := append(someNumbers(), young-1, young, young+1)
	for i, r := range want {
		if i == 0 {
			largest = int64(r.Hi)
		}
		asked = append(asked, r.Lo-1, r.Lo, r.Lo+1, r.Lo/2+r.Hi/2, r.Hi-1, r.Hi, r.Hi+1)
	}
	if got := s.Largest(); got != largest {
		t.Fatalf("Largest() = %d, want %d", got, largest)
	}
	for _, n := range asked {
		in := slices.ContainsFunc(want, func(r api.Range) bool { return r.Lo <= n && n <= r.Hi })
		if s.Has(n) != in {
			t.Fatalf("Has(%d) = %v, of %v", n, !in, want)
		}
		if old := n < young; s.Old(n) != old {
			t.Fatalf("Old(%d) = %v, want those below %d", n, !old, young)
		}
	}
	if got := s.Ranges(); !slices.Equal(got, want) {
		t.Fatalf("Ranges() = %v behind all that was asked, want %v", got, want)
	}
}

// eachOrder calls for all orders of numbers.
func eachOrder(all []uint64, call func(order []uint64)) {
	var step func(done, left []uint64)
	step = func(done, left []uint64) {
		if len(left) == 0 {
			call(done)
		}
		for i, n := range left {
			rest := slices.Delete(slices.Clone(left), i, i+1)
			step(append(slices.Clone(done), n), rest)
		}
	}
	step(nil, all)
}

// reversed are numbers the other way round.
func reversed(all []uint64) []uint64 {
	order := slices.Clone(all)
	slices.Reverse(order)
	return order
}

// mixed are numbers in an order that neither rises nor falls, but for a few of them; it is the same each time.
func mixed(all []uint64) []uint64 {
	order := slices.Clone(all)
	rand.New(rand.NewSource(13)).Shuffle(len(order), func(i, j int) { order[i], order[j] = order[j], order[i] })
	return order
}

// every are so many numbers from one on, each a step above the one ahead.
func every(from, step uint64, count int) []uint64 {
	var all []uint64
	for i := range count {
		all = append(all, from+uint64(i)*step)
	}
	return all
}

// P13.1

func TestAZeroSetHasNone(t *testing.T) {
	var s ranges.Set
	has(t, &s, 0)
	has(t, new(ranges.Set), 0)
	add(t, &s, 5)
	has(t, &s, 0, span(5, 5))
}

func TestANilSetHasNone(t *testing.T) {
	var s *ranges.Set
	for _, n := range someNumbers() {
		addNot(t, s, n)
		has(t, s, 0)
		forgets(t, s, n, 0)
		has(t, s, 0)
	}
}

func TestSetsAreApart(t *testing.T) {
	a, b := setOf(t, 5), setOf(t, 5, 7, 8)
	has(t, a, 0, span(5, 5))
	forgets(t, b, 7, 1)
	add(t, b, 10)
	has(t, a, 0, span(5, 5))
	add(t, a, 6)
	has(t, b, 8, span(10, 10), span(8, 8))
}

func TestAddOfOne(t *testing.T) {
	for _, n := range someNumbers() {
		s := new(ranges.Set)
		if n > greatest {
			addNot(t, s, n)
			has(t, s, 0)
			continue
		}
		add(t, s, n)
		has(t, s, 0, span(n, n))
		addNot(t, s, n)
		has(t, s, 0, span(n, n))
	}
}

func TestAddOfNoNumber(t *testing.T) {
	for _, n := range noNumbers() {
		s := setOf(t, 0, greatest-1)
		addNot(t, s, n)
		has(t, s, 0, span(greatest-1, greatest-1), span(0, 0))
		add(t, s, greatest)
		addNot(t, s, n) // MaxInt + 1 touches one, but is none
		has(t, s, 0, span(greatest-1, greatest), span(0, 0))
		s = setOf(t, every(0, 2, most)...)
		addNot(t, s, n)
		has(t, s, 0, singles(reversed(every(0, 2, most))...)...)
	}
}

func TestAddAtTheEndsOfAllNumbers(t *testing.T) {
	eachOrder([]uint64{0, 1, 2, greatest - 2, greatest - 1, greatest}, func(order []uint64) {
		s := setOf(t, order...)
		has(t, s, 0, span(greatest-2, greatest), span(0, 2))
		addNot(t, s, order...)
	})
	has(t, setOf(t, 0, greatest), 0, span(greatest, greatest), span(0, 0))
	has(t, setOf(t, greatest, 0), 0, span(greatest, greatest), span(0, 0))
}

func TestAddInEachOrder(t *testing.T) {
	for _, x := range []struct {
		numbers []uint64
		want    []api.Range
	}{
		{[]uint64{5, 6, 7}, []api.Range{span(5, 7)}}, // the chapter's example
		{[]uint64{5, 6, 7, 8, 9}, []api.Range{span(5, 9)}},
		{[]uint64{1, 3, 5, 7, 9}, singles(9, 7, 5, 3, 1)},
		{[]uint64{1, 4, 8, 13, 100, 1000}, singles(1000, 100, 13, 8, 4, 1)},
		{[]uint64{1, 2, 4, 7, 8, 9, 20}, []api.Range{span(20, 20), span(7, 9), span(4, 4), span(1, 2)}},
		{[]uint64{0, 2, 3, 5, 6, 9, 10}, []api.Range{span(9, 10), span(5, 6), span(2, 3), span(0, 0)}},
	} {
		eachOrder(x.numbers, func(order []uint64) {
			s := setOf(t, order...)
			has(t, s, 0, x.want...)
			addNot(t, s, order...)
		})
	}
}

func TestAddInRisingFallingAndMixedOrder(t *testing.T) {
	for _, step := range []uint64{1, 2, 3, 1 << 20} {
		for count := 1; count <= most; count++ {
			all := every(7, step, count)
			want := singles(reversed(all)...)
			if step == 1 {
				want = []api.Range{span(7, all[count-1])}
			}
			for _, order := range [][]uint64{all, reversed(all), mixed(all)} {
				has(t, setOf(t, order...), 0, want...)
			}
		}
	}
}

func TestAddOfManyThatMakeOneRange(t *testing.T) {
	all := every(1000, 1, 5000)
	rising, falling := setOf(t, all...), setOf(t, reversed(all)...)
	has(t, rising, 0, span(1000, 5999))
	has(t, falling, 0, span(1000, 5999))
	addNot(t, rising, all...)
	addNot(t, falling, all...)
}

func TestAddTwice(t *testing.T) {
	s := new(ranges.Set)
	for _, n := range mixed(every(0, 3, most)) {
		add(t, s, n)
		addNot(t, s, n, n)
	}
	want := singles(reversed(every(0, 3, most))...)
	addNot(t, s, mixed(every(0, 3, most))...) // much later
	has(t, s, 0, want...)
	for i, n := range every(1, 3, most-1) { // at the upper end of each, and twice again
		add(t, s, n)
		addNot(t, s, n, n-1)
		want[most-1-i].Hi = n
	}
	has(t, s, 0, want...)
}

func TestAddAtEitherEndOfARange(t *testing.T) {
	three := []uint64{10, 11, 12, 20, 21, 22, 30, 31, 32}
	for _, x := range []struct {
		n    uint64
		want []api.Range
	}{
		{9, []api.Range{span(30, 32), span(20, 22), span(9, 12)}},
		{13, []api.Range{span(30, 32), span(20, 22), span(10, 13)}},
		{19, []api.Range{span(30, 32), span(19, 22), span(10, 12)}},
		{23, []api.Range{span(30, 32), span(20, 23), span(10, 12)}},
		{29, []api.Range{span(29, 32), span(20, 22), span(10, 12)}},
		{33, []api.Range{span(30, 33), span(20, 22), span(10, 12)}},
		{8, []api.Range{span(30, 32), span(20, 22), span(10, 12), span(8, 8)}}, // these touch none
		{14, []api.Range{span(30, 32), span(20, 22), span(14, 14), span(10, 12)}},
		{18, []api.Range{span(30, 32), span(20, 22), span(18, 18), span(10, 12)}},
		{34, []api.Range{span(34, 34), span(30, 32), span(20, 22), span(10, 12)}},
	} {
		s := setOf(t, three...)
		add(t, s, x.n)
		has(t, s, 0, x.want...)
		addNot(t, s, x.n)
		addNot(t, s, three...)
		has(t, s, 0, x.want...)
	}
}

func TestAddBetweenTwoThatBecomeOne(t *testing.T) {
	for _, size := range []uint64{1, 2, 5} {
		var all []uint64
		for i := range uint64(6) {
			all = append(all, every(i*(size+1), 1, int(size))...) // ranges with a number between each two
		}
		for i := range uint64(5) {
			s := setOf(t, mixed(all)...)
			between := i*(size+1) + size
			add(t, s, between)
			var want []api.Range
			for j := range uint64(6) {
				if j != i {
					want = append(want, span(j*(size+1), j*(size+1)+size-1))
				} else {
					want = append(want, span(j*(size+1), (j+1)*(size+1)+size-1))
				}
			}
			want = slices.Delete(want, int(i)+1, int(i)+2)
			slices.Reverse(want)
			has(t, s, 0, want...)
			addNot(t, s, between)
		}
	}
}

func TestThereAreAtMost16Ranges(t *testing.T) {
	for _, count := range []int{most - 1, most} {
		all := every(100, 10, count)
		for _, order := range [][]uint64{all, reversed(all), mixed(all)} {
			s := setOf(t, order...)
			has(t, s, 0, singles(reversed(all)...)...)
			if got := len(s.Ranges()); got != count {
				t.Fatalf("%d ranges, want %d", got, count)
			}
		}
	}
}

func TestA17thAsTheGreatest(t *testing.T) {
	s := setOf(t, every(100, 10, most)...)
	add(t, s, 260)
	has(t, s, 101, singles(reversed(every(110, 10, most))...)...)
	addNot(t, s, 100, 99, 0) // the one that went, and those below, which never came
	add(t, s, greatest)
	has(t, s, 111, singles(append([]uint64{greatest}, reversed(every(120, 10, most-1))...)...)...)
}

func TestA17thInBetween(t *testing.T) {
	for i := range most - 1 {
		all := every(100, 10, most)
		between := all[i] + 5
		s := setOf(t, mixed(all)...)
		add(t, s, between)
		left := slices.Insert(slices.Clone(all[1:]), i, between)
		has(t, s, 101, singles(reversed(left)...)...)
		addNot(t, s, 100, 50)
		addNot(t, s, left...)
	}
}

func TestA17thAsTheLeastGoesAtOnce(t *testing.T) {
	for _, n := range []uint64{98, 97, 50, 1, 0} {
		all := every(100, 10, most)
		s := setOf(t, mixed(all)...)
		add(t, s, n)
		has(t, s, n+1, singles(reversed(all)...)...)
		addNot(t, s, n, 0)
		addNot(t, s, all...)
	}
}

func TestThoseBetweenWhatWentAtOnceAndTheLeastComeLater(t *testing.T) {
	all := every(100, 10, most)
	s := setOf(t, all...)
	add(t, s, 50)
	addNot(t, s, 50, 49)
	add(t, s, 51) // it touches what went alone, and goes at once, too
	has(t, s, 52, singles(reversed(all)...)...)
	add(t, s, 97)
	has(t, s, 98, singles(reversed(all)...)...)
	addNot(t, s, 51, 52, 96, 97)
	add(t, s, 99) // it touches the least one, and stays
	want := singles(reversed(all)...)
	want[most-1].Lo = 99
	has(t, s, 98, want...)
	add(t, s, 98)
	want[most-1].Lo = 98
	has(t, s, 98, want...)
	addNot(t, s, 97, 98)
}

func TestWhatGoesIsOldUpToItsHi(t *testing.T) {
	least := every(10, 1, 5)
	for _, n := range []uint64{55, 95, 205, 400} {
		s := setOf(t, append(every(50, 10, most-1), least...)...)
		add(t, s, n)
		left := append(every(50, 10, most-1), n)
		slices.Sort(left)
		has(t, s, 15, singles(reversed(left)...)...)
		addNot(t, s, least...)
		addNot(t, s, 0, 9)
		add(t, s, 15) // the one above its Hi isn't old, but goes at once
		has(t, s, 16, singles(reversed(left)...)...)
	}
}

func TestANumberThatTouchesAmong16(t *testing.T) {
	all := every(100, 10, most)
	for i, n := range all {
		for _, end := range []uint64{n - 1, n + 1} {
			s := setOf(t, mixed(all)...)
			add(t, s, end)
			want := singles(reversed(all)...)
			want[most-1-i] = span(min(n, end), max(n, end))
			has(t, s, 0, want...) // none goes
		}
	}
}

func TestANumberThatMakesTwoOf16One(t *testing.T) {
	all := every(100, 2, most)
	for i := range most - 1 {
		s := setOf(t, mixed(all)...)
		add(t, s, all[i]+1)
		left := append(slices.Clone(all[:i]), all[i+2:]...)
		want := append(singles(left...), span(all[i], all[i+1]))
		slices.SortFunc(want, func(a, b api.Range) int { return int(b.Lo) - int(a.Lo) })
		has(t, s, 0, want...)
		add(t, s, 50) // there is room for one again, and but for one
		has(t, s, 0, append(slices.Clone(want), span(50, 50))...)
		add(t, s, 40)
		has(t, s, 41, append(slices.Clone(want), span(50, 50))...)
		add(t, s, 200)
		has(t, s, 51, append([]api.Range{span(200, 200)}, want...)...)
	}
}

func TestRisingWithGapsTheLast16Stay(t *testing.T) {
	s := new(ranges.Set)
	for i := range uint64(1000) {
		add(t, s, 3*i)
		if i < most {
			has(t, s, 0, singles(reversed(every(0, 3, int(i)+1))...)...)
			continue
		}
		has(t, s, 3*(i-most)+1, singles(reversed(every(3*(i-most+1), 3, most))...)...)
		addNot(t, s, 0, 3*(i-most), 3*(i-most)-1)
	}
}

func TestFallingWithGapsTheFirst16Stay(t *testing.T) {
	s := setOf(t, reversed(every(1000, 3, most))...)
	add(t, s, 990) // it goes at once, and makes all old that is below
	addNot(t, s, reversed(every(0, 3, 330))...)
	has(t, s, 991, singles(reversed(every(1000, 3, most))...)...)
}

func TestOldOnesAddedAgain(t *testing.T) {
	all := every(100, 10, most)
	s := setOf(t, all...)
	add(t, s, 1000, 1010, 1020) // 100, 110 and 120 go one behind the other
	want := singles(append([]uint64{1020, 1010, 1000}, reversed(every(130, 10, most-3))...)...)
	has(t, s, 121, want...)
	addNot(t, s, every(0, 1, 121)...) // those that went, those between them, and those below
	has(t, s, 121, want...)
	add(t, s, 129, 128, 127, 126, 125, 124, 123, 122, 121)
	want[most-1].Lo = 121
	has(t, s, 121, want...)
	addNot(t, s, 120)
}

func TestNearMaxIntRangesGo(t *testing.T) {
	all := every(greatest-2*most+2, 2, most)
	s := setOf(t, mixed(all)...)
	has(t, s, 0, singles(reversed(all)...)...)
	add(t, s, greatest-2*most)
	has(t, s, greatest-2*most+1, singles(reversed(all)...)...)
	s = setOf(t, every(greatest-2*most, 2, most)...)
	add(t, s, greatest)
	has(t, s, greatest-2*most+1, singles(reversed(all)...)...)
	addNot(t, s, greatest+1)
	add(t, s, greatest-1)
	has(t, s, greatest-2*most+1, append([]api.Range{span(greatest-2, greatest)}, singles(reversed(all[:most-2])...)...)...)
}

// Rule 4: what is answered is new memory.

func TestRangesMayBeWrittenOn(t *testing.T) {
	want := []api.Range{span(30, 31), span(20, 20), span(5, 9)}
	s := setOf(t, 5, 6, 7, 8, 9, 20, 30, 31)
	for range 3 {
		list := s.Ranges()
		for _, room := range [][]api.Range{list, list[:cap(list)]} {
			for i := range room {
				room[i] = span(1, 2)
			}
		}
		list = append(list[:1], span(3, 4), span(3, 4))
		slices.Reverse(list)
		has(t, s, 0, want...)
	}
	list := s.Ranges()
	clear(list[:cap(list)])
	add(t, s, 25, 10, 4)
	has(t, s, 0, span(30, 31), span(25, 25), span(20, 20), span(4, 10))
	if slices.ContainsFunc(list[:cap(list)], func(r api.Range) bool { return r != api.Range{} }) {
		t.Fatalf("a list that was handed out is written on: %v", list[:cap(list)])
	}
}

func TestRangesStayAsTheyWereTold(t *testing.T) {
	s, told := new(ranges.Set), [][2][]api.Range{}
	draw := rand.New(rand.NewSource(13))
	for i := range 2000 {
		s.Add(uint64(i/4 + draw.Intn(100)))
		if i%97 == 0 {
			s.Forget(uint64(i / 4))
		}
		list := s.Ranges()
		told = append(told, [2][]api.Range{list, slices.Clone(list)})
	}
	for _, x := range told {
		if !slices.Equal(x[0], x[1]) {
			t.Fatalf("%v was told, and is %v now", x[1], x[0])
		}
	}
}
