package timers_test

import (
	"testing"

	"doorward/api"
	"doorward/timers"
)

// P12.2

func TestNextIsTheLeastTime(t *testing.T) {
	q := timers.New()
	for _, x := range []struct {
		time, next uint64
	}{{never, never}, {never - 1, never - 1}, {70, 70}, {90, 70}, {70, 70}, {69, 69}, {1, 1}, {0, 0}, {0, 0}, {never, 0}, {5, 0}} {
		set(t, q, at(x.time, q.Len(), 1))
		if got := q.Next(); got != x.next {
			t.Fatalf("Next() = %d, want %d", got, x.next)
		}
	}
}

func TestNextOfOneThatIsSetAnew(t *testing.T) {
	q := queueOf(t, at(5, 1, 1), at(9, 1, 1))
	has(t, q, at(9, 1, 1)) // the chapter's example
	q = queueOf(t, at(5, 1, 1), at(7, 2, 2), at(9, 1, 1))
	has(t, q, at(7, 2, 2), at(9, 1, 1))
}

func TestDueAheadOfAtAndBehindTheTime(t *testing.T) {
	for _, time := range []uint64{1, 5, 31000, 1 << 63, never - 1} {
		q := queueOf(t, at(time, 1, 2))
		for _, now := range []uint64{0, time / 2, time - 1} {
			dueNot(t, q, now)
			has(t, q, at(time, 1, 2))
		}
		for _, now := range []uint64{time, time + 1, never} {
			due(t, q, now, at(time, 1, 2))
			dueNot(t, q, now)
			hasNone(t, q)
			set(t, q, at(time, 1, 2))
		}
	}
}

func TestDueAtTheTime0(t *testing.T) {
	q := queueOf(t, at(1, 1, 1), at(0, 2, 2))
	dueAll(t, q, 0, at(0, 2, 2))
	has(t, q, at(1, 1, 1))
	set(t, q, at(0, 0, 0)) // it is due, though it is a zero one
	due(t, q, 0, api.Timer{})
	dueAll(t, q, 1, at(1, 1, 1))
}

func TestDueAtNever(t *testing.T) {
	q := queueOf(t, at(never-1, 1, 1), at(0, 2, 2), at(never, 3, 3))
	dueAll(t, q, never, at(0, 2, 2), at(never-1, 1, 1))
	hasNone(t, q)
}

func TestDueIsOneByOne(t *testing.T) {
	want := many(most)
	q := queueOf(t, mixed(want)...)
	dueNot(t, q, 999)
	for i, x := range want {
		dueNot(t, q, x.At-1)
		due(t, q, x.At, x)
		dueNot(t, q, x.At)
		isAt(t, q, x.Conn, x.Kind, never)
		cancels(t, q, x.Conn, x.Kind, false)
		has(t, q, want[i+1:]...)
	}
	hasNone(t, q)
}

func TestSeveralAreDueAtOneTime(t *testing.T) {
	want := []api.Timer{at(4, 2, 2), at(5, 1, 3), at(5, 2, 1), at(5, 2, 3), at(5, 3, 0), at(6, 1, 1), at(9, 0, 0)}
	eachOrder(want, func(order []api.Timer) {
		q := queueOf(t, order...)
		dueAll(t, q, 5, want[:5]...)
		has(t, q, want[5:]...)
		dueAll(t, q, 8, want[5])
		dueAll(t, q, 9, want[6])
	})
}

func TestAllAreDueAtOneTime(t *testing.T) {
	var want []api.Timer
	for i := range most {
		want = append(want, at(77, i/9-10, i%9-4))
	}
	q := queueOf(t, mixed(want)...)
	dueNot(t, q, 76)
	dueAll(t, q, 77, want...)
	hasNone(t, q)
}

func TestWhatWasDueMayBeSetAgain(t *testing.T) {
	q := queueOf(t, at(5, 1, 2), at(6, 3, 4))
	for i := range uint64(500) {
		due(t, q, 5, at(5, 1, 2))
		dueNot(t, q, 5)
		if i%2 == 0 {
			set(t, q, at(7, 1, 2))
			has(t, q, at(6, 3, 4), at(7, 1, 2))
		}
		set(t, q, at(5, 1, 2))
		has(t, q, at(5, 1, 2), at(6, 3, 4))
	}
}

func TestTimesOfDueMayFall(t *testing.T) {
	q := queueOf(t, many(10)...)
	due(t, q, 5000, at(1000, 0, 0))
	dueNot(t, q, 1000) // the one at 1000 went, and time isn't kept
	due(t, q, 1001, at(1001, 1, 0))
	set(t, q, at(3, 0, 0))
	due(t, q, 3, at(3, 0, 0))
}
