package ranges_test

import (
	"math/rand"
	"slices"
	"testing"

	"doorward/api"
	"doorward/ranges"
)

// P13.3

// inForm fails the test, if ranges aren't told as they are to be: the greatest first, no more than 16, none of which meets or touches another one, none of old numbers.
func inForm(t *testing.T, s *ranges.Set) {
	t.Helper()
	list := s.Ranges()
	if len(list) > most {
		t.Fatalf("%d ranges", len(list))
	}
	for i, r := range list {
		if r.Lo > r.Hi || r.Hi > greatest || s.Old(r.Lo) || i > 0 && r.Hi+1 >= list[i-1].Lo {
			t.Fatalf("%v isn't in form at %d", list, i)
		}
	}
}

// comes is how numbers may come: the next one, one that was lost for a while, one that comes twice, one of no rule.
func comes(draw *rand.Rand, i int) uint64 {
	switch draw.Intn(4) {
	case 0:
		return uint64(i)
	case 1:
		return uint64(max(0, i-draw.Intn(60)))
	case 2:
		return uint64(i/10*10 + draw.Intn(5))
	default:
		return uint64(draw.Intn(2*i + 1))
	}
}

func TestNoNumberIsAddedTwice(t *testing.T) {
	draw := rand.New(rand.NewSource(13))
	for round := range 60 {
		s, added := new(ranges.Set), map[uint64]bool{}
		for i := range 1000 {
			n := comes(draw, i)
			ok := s.Add(n)
			if ok && added[n] {
				t.Fatalf("%d is added twice", n)
			}
			if ok {
				added[n] = true
			}
			if ok && !s.Has(n) && !s.Old(n) || s.Has(n) && !added[n] {
				t.Fatalf("%d was added: %v; is had: %v; is old: %v", n, ok, s.Has(n), s.Old(n))
			}
			if round%2 == 1 && draw.Intn(100) == 0 {
				s.Forget(uint64(draw.Intn(i + 1)))
			}
			inForm(t, s)
		}
	}
}

func TestWhatIsOldStaysOld(t *testing.T) {
	draw := rand.New(rand.NewSource(13))
	for range 30 {
		s, old := new(ranges.Set), uint64(0) // how many are old
		for i := range 1000 {
			s.Add(comes(draw, i))
			if draw.Intn(200) == 0 {
				s.Forget(comes(draw, i))
			}
			for s.Old(old) {
				old++
			}
			if n := uint64(draw.Intn(i + 1)); s.Old(n) != (n < old) || n < old && (s.Has(n) || s.Add(n)) {
				t.Fatalf("%d, with %d old ones: it is old: %v; had: %v", n, old, s.Old(n), s.Has(n))
			}
		}
	}
}

// manyRanges says whether numbers that come in an order make more than 16 ranges at any time.
func manyRanges(order []uint64) bool {
	there, count := map[uint64]bool{}, 0
	for _, n := range order {
		count++
		if there[n] {
			count--
		} else {
			if n > 0 && there[n-1] {
				count--
			}
			if there[n+1] {
				count--
			}
		}
		there[n] = true
		if count > most {
			return true
		}
	}
	return false
}

// rangesOf are the ranges of numbers, put together of all of them at once.
func rangesOf(all []uint64) []api.Range {
	sorted := slices.Clone(all)
	slices.Sort(sorted)
	return (&again{numbers: slices.Compact(sorted)}).list()
}

func TestInWhicheverOrderTheSetIsTheSame(t *testing.T) {
	draw := rand.New(rand.NewSource(13))
	same, others := 0, 0
	for range 3000 {
		var all []uint64
		within := 1 + draw.Intn(70)
		for range draw.Intn(70) {
			all = append(all, uint64(draw.Intn(within)))
		}
		draw.Shuffle(len(all), func(i, j int) { all[i], all[j] = all[j], all[i] })
		if manyRanges(all) {
			others++
			continue
		}
		same++
		s, want := new(ranges.Set), rangesOf(all)
		for i, n := range all {
			if s.Add(n) == slices.Contains(all[:i], n) {
				t.Fatalf("Add(%d) behind %v", n, all[:i])
			}
		}
		has(t, s, 0, want...)
	}
	if same < 1000 || others < 100 {
		t.Errorf("only %d of them, and %d others", same, others)
	}
}

func TestInEachOrderOf16RangesTheSetIsTheSame(t *testing.T) {
	draw := rand.New(rand.NewSource(13))
	var all []uint64
	for i := range uint64(most) {
		all = append(all, 5*i, 5*i+1, 5*i+2)
	}
	want := rangesOf(all)
	for range 1000 {
		order := slices.Clone(all)
		slices.SortFunc(order, func(a, b uint64) int { return int(a%5) - int(b%5) }) // middles come behind beginnings, or there were more ranges for a while
		for part := range slices.Chunk(order, most) {
			draw.Shuffle(len(part), func(i, j int) { part[i], part[j] = part[j], part[i] })
		}
		if manyRanges(order) {
			t.Fatal("there are more than 16 ranges")
		}
		has(t, setOf(t, order...), 0, want...)
	}
}
