package timers_test

import (
	"math"
	"slices"
	"testing"

	"doorward/api"
	"doorward/timers"
)

// P12.1

func TestCancelFirstLastAndInBetween(t *testing.T) {
	for count := 1; count <= 20; count++ {
		want := many(count)
		for place := range want {
			for _, order := range [][]api.Timer{want, mixed(want)} {
				q := queueOf(t, order...)
				cancels(t, q, place, 0, true)
				has(t, q, without(want, place)...)
				cancels(t, q, place, 0, false)
				has(t, q, without(want, place)...)
				dueAll(t, q, never, without(want, place)...)
			}
		}
	}
}

func TestCancelAllInEachOrder(t *testing.T) {
	all := []api.Timer{at(10, 5, 1), at(20, 1, 1), at(20, 3, 1), at(50, 0, 1), at(70, 4, 1), at(90, 2, 1)}
	eachOrder(all, func(order []api.Timer) {
		q, left := queueOf(t, mixed(all)...), all
		for _, x := range order {
			cancels(t, q, x.Conn, x.Kind, true)
			left = without(left, slices.Index(left, x))
			has(t, q, left...)
		}
	})
}

func TestCancelOfOneThatIsNotThere(t *testing.T) {
	want := []api.Timer{at(5, 1, 2), at(6, 3, 4)}
	q := queueOf(t, want...)
	for _, x := range [][2]int{{1, 4}, {3, 2}, {2, 1}, {4, 3}, {0, 0}, {-1, -2}, {1, 1}, {math.MinInt, math.MaxInt}} {
		cancels(t, q, x[0], x[1], false)
		has(t, q, want...)
	}
}

func TestWhatWasCancelledMayBeSetAgain(t *testing.T) {
	q := queueOf(t, at(5, 1, 2), at(6, 3, 4))
	for i := range uint64(500) {
		cancels(t, q, 1, 2, true)
		set(t, q, at(7+i, 1, 2))
		has(t, q, at(6, 3, 4), at(7+i, 1, 2))
	}
}

func TestDropOfOneWithOthersBetween(t *testing.T) {
	all := []api.Timer{at(1, 7, 0), at(2, 8, 0), at(3, 7, 1), at(4, 6, 5), at(5, 7, -1), at(6, 7, 9), at(7, 8, 1)}
	left := []api.Timer{at(2, 8, 0), at(4, 6, 5), at(7, 8, 1)}
	eachOrder(all, func(order []api.Timer) {
		q := queueOf(t, order...)
		drops(t, q, 7, 4)
		has(t, q, left...)
		for _, kind := range []int{0, 1, -1, 9} {
			isAt(t, q, 7, kind, never)
		}
		drops(t, q, 7, 0)
		has(t, q, left...)
		dueAll(t, q, 7, left...)
	})
}

func TestDropOfOneThatHasNone(t *testing.T) {
	want := []api.Timer{at(1, 7, 3), at(2, 8, 4)}
	q := queueOf(t, want...)
	for _, conn := range []int{3, 4, 6, 9, 0, -7, -8, math.MinInt, math.MaxInt} {
		drops(t, q, conn, 0)
		has(t, q, want...)
	}
}

func TestDropOfManyConnections(t *testing.T) {
	for _, conns := range []int{1, 2, 3, 8, 50, 199, most} {
		var want []api.Timer
		for i := range most {
			want = append(want, at(uint64(i), i%conns, i/conns))
		}
		q := queueOf(t, mixed(want)...)
		for i := range conns {
			conn := (i + conns/2) % conns
			left := slices.DeleteFunc(slices.Clone(want), func(x api.Timer) bool { return x.Conn == conn })
			drops(t, q, conn, len(want)-len(left))
			has(t, q, left...)
			want = left
		}
		hasNone(t, q)
	}
}

func TestWhatWasDroppedMayBeSetAgain(t *testing.T) {
	q := timers.New()
	for i := range 100 {
		set(t, q, at(5, 1, i), at(3, 1, i+1), at(4, 2, i))
		drops(t, q, 1, 2)
		has(t, q, at(4, 2, i))
		drops(t, q, 2, 1)
		hasNone(t, q)
	}
}

func TestAListIsNewMemory(t *testing.T) {
	want := many(10)
	q := queueOf(t, mixed(want)...)
	first, second := q.List(), q.List()
	for i := range first {
		first[i] = at(1, 77, i)
	}
	spare := first[:cap(first)]
	for i := range spare {
		spare[i] = at(2, 88, i)
	}
	if !slices.Equal(second, want) {
		t.Errorf("another list is %v", second)
	}
	has(t, q, want...)
	set(t, q, at(1, 99, 0))
	cancels(t, q, 3, 0, true)
	if !slices.Equal(second, want) {
		t.Errorf("a list that was handed out is %v behind a Set", second)
	}
	dueAll(t, q, never, append([]api.Timer{at(1, 99, 0)}, without(want, 3)...)...)
}

func TestAListOfNoneIsNewMemory(t *testing.T) {
	q := queueOf(t, many(5)...)
	dueAll(t, q, never, many(5)...)
	list := append(q.List(), at(1, 77, 0))
	hasNone(t, q)
	set(t, q, at(5, 1, 1))
	if list[0] != at(1, 77, 0) {
		t.Errorf("the list is %v behind a Set", list)
	}
	has(t, q, at(5, 1, 1))
}

func TestWhatAsksTurnsNothing(t *testing.T) {
	asked, other := timers.New(), timers.New()
	for i := range 600 {
		x := at(uint64(i*i*13%500), i*7%31, i*5%11)
		has(t, asked, asked.List()...) // the other one isn't asked ahead of the end
		for conn := range 35 {
			asked.At(conn, i%12)
		}
		if asked.Set(x) != other.Set(x) || asked.Cancel(i%13, i%11) != other.Cancel(i%13, i%11) {
			t.Fatalf("step %d: it hangs on what was asked", i)
		}
		if i%5 == 0 {
			a, okA := asked.Due(uint64(i))
			b, okB := other.Due(uint64(i))
			if a != b || okA != okB {
				t.Fatalf("step %d: what is due hangs on what was asked", i)
			}
		}
	}
	has(t, asked, other.List()...)
	dueAll(t, asked, never, other.List()...)
}
