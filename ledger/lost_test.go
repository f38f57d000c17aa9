package ledger_test

import (
	"slices"
	"testing"

	"doorward/api"
	"doorward/ledger"
)

// Lost, of P15.1

func TestNothingIsLostWhereNothingWasAcked(t *testing.T) {
	l := ledgerOf(t, many(most)...)
	for _, n := range []uint64{0, 1, 1000, never} {
		lose(t, l, n, 0)
		lose(t, l, never, n)
	}
	if got := len(l.List()); got != most {
		t.Errorf("%d are there", got)
	}
}

func TestThreeLessThanTheGreatestIsLostAtWhateverTime(t *testing.T) {
	for _, x := range []struct {
		acked uint64
		lost  []int64
	}{{0, nil}, {1, nil}, {2, nil}, {3, []int64{0}}, {4, []int64{0, 1}}, {5, []int64{0, 1, 2}}, {9, []int64{0, 1, 2, 3, 4, 5, 6}}} {
		for _, time := range [][2]uint64{{0, never}, {0, 1}, {999, 0}, {1000, 1}, {never - 1, never}} { // 1000 is the first one's At
			l := ledgerOf(t, many(10)...)
			ack(t, l, one(x.acked), int64(x.acked))
			lose(t, l, time[0], time[1], x.lost...)
			if got := len(l.List()); got != 9-len(x.lost) {
				t.Errorf("%d are there, where %d was acked", got, x.acked)
			}
			lose(t, l, time[0], time[1]) // they are there no more
		}
	}
}

func TestThreeLessIsOfNumbersNotOfPackets(t *testing.T) {
	l := ledgerOf(t, many(10)...)
	ack(t, l, []api.Range{span(1, 2)}, 1, 2)
	lose(t, l, 0, never)
	ack(t, l, one(3), 3)
	lose(t, l, 0, never, 0)
	l = ledgerOf(t, many(10)...)
	ack(t, l, to(5, 6), 5, 6) // 4 is just ahead of them, and two less than 6
	lose(t, l, 0, never, 0, 1, 2, 3)
	checkThere(t, l, 4, 7, 8, 9)
}

func TestAboveTheGreatestNothingIsLost(t *testing.T) {
	l := ledgerOf(t, silent(0, 5), asks(0, 5), asks(0, 5), asks(0, 5), silent(0, 5))
	ack(t, l, one(1), 1)
	lose(t, l, never, 0, 0)
	lose(t, l, never, 0)
	checkThere(t, l, 2, 3, 4)
}

func TestLostByTime(t *testing.T) {
	for _, x := range []struct {
		at, delay, now uint64
		lost           bool
	}{
		{0, 0, 0, true}, {100, 0, 100, true}, {100, 0, 99, false}, {100, 0, 101, true},
		{100, 30, 129, false}, {100, 30, 130, true}, {100, 30, 131, true}, {100, 30, never, true}, {100, 30, 0, false}, {0, 30, 29, false}, {0, 30, 30, true},
		{1 << 32, 1 << 32, 1<<33 - 1, false}, {1 << 32, 1 << 32, 1 << 33, true}, {1 << 63, 1<<63 - 2, never - 2, false}, {1 << 63, 1<<63 - 2, never - 1, true},
		{never - 5, 5, never - 1, false}, {never - 5, 5, never, true}, {never - 5, 4, never - 2, false}, {never - 5, 4, never - 1, true},
		{never - 5, 6, never - 1, false}, {never - 5, 6, 0, false}, {never - 5, 6, never, true}, // where the sum is held by Never
		{1 << 63, 1 << 63, 0, false}, {1 << 63, 1 << 63, never - 1, false}, {1 << 63, 1 << 63, never, true},
		{never, 0, never - 1, false}, {never, 0, never, true}, {never, 1, 0, false}, {never, never, never - 2, false}, {never, never, never, true}, {0, never, never - 1, false}, {0, never, never, true}, {5, never, 4, false},
	} {
		for _, less := range []int{1, 2} {
			for _, p := range []api.Sent{asks(x.at, 10), silent(x.at, 10)} {
				l := ledgerOf(t, slices.Repeat([]api.Sent{p}, less+1)...)
				ack(t, l, one(uint64(less)), int64(less))
				if got := l.Lost(x.now, x.delay); len(got) > 0 != x.lost || x.lost && len(got) != less {
					t.Errorf("Lost(%d, %d) = %v, sent at %d", x.now, x.delay, numbers(got), x.at)
				}
			}
		}
	}
}

func TestLostIsOfEachPacketsOwnTime(t *testing.T) {
	l := ledgerOf(t, asks(50, 1), asks(40, 2), asks(70, 3), asks(0, 4), asks(60, 5), asks(10, 6), asks(99, 7), asks(0, 8))
	ack(t, l, one(2), 2)
	lose(t, l, 59, 10, 1) // though a later number went ahead of it
	checkThere(t, l, 0, 3, 4, 5, 6, 7)
	ack(t, l, one(6), 6)
	lose(t, l, 20, 10, 0, 3, 5) // three less, three less, and by time
	lose(t, l, 69, 10)
	lose(t, l, 70, 10, 4)
	lose(t, l, never, 0)
	checkThere(t, l, 7)
}

func TestLostTellsRisingNumbers(t *testing.T) {
	var all []api.Sent
	for i := range uint64(most) {
		all = append(all, asks(i*37%most, 5)) // times in no order
	}
	l := ledgerOf(t, all...)
	ack(t, l, []api.Range{span(63, 63), span(20, 30)}, append(rising(20, 30), 63)...)
	lose(t, l, 0, never, slices.Concat(rising(0, 19), rising(31, 60))...)
	checkThere(t, l, 61, 62)
}

func rising(from, to int64) []int64 {
	var list []int64
	for n := from; n <= to; n++ {
		list = append(list, n)
	}
	return list
}

func TestLostGoesOnBehindADrop(t *testing.T) {
	l := ledgerOf(t, many(6)...)
	ack(t, l, one(5), 5)
	l.Drop()
	if got := l.Acked(); got != 5 { // goes on standing
		t.Errorf("Acked() = %d", got)
	}
	lose(t, l, never, 0)
	send(t, l, 6, many(4)...)
	lose(t, l, never, 0) // all are above it
	if got := l.Due(0); got != never {
		t.Errorf("Due() = %d", got)
	}
	ack(t, l, one(9), 9)
	lose(t, l, 0, never, 6)
	lose(t, l, 1001, 0, 7)
	checkThere(t, l, 8)
}

// Due, of P15.2

// checkDue fails the test, if one would be lost by another time.
func checkDue(t *testing.T, l *ledger.Ledger, delay, want uint64) {
	t.Helper()
	if got := l.Due(delay); got != want {
		t.Errorf("Due(%d) = %d, want %d", delay, got, want)
	}
}

func TestDueIsTheLeastTimeOfThoseBelowTheGreatest(t *testing.T) {
	l := ledgerOf(t, asks(50, 1), silent(40, 2), asks(70, 3), asks(0, 4), asks(60, 5))
	for _, delay := range []uint64{0, 1, never} {
		checkDue(t, l, delay, never) // nothing was acked
	}
	ack(t, l, one(0), 0)
	checkDue(t, l, 5, never) // none is below the greatest one
	ack(t, l, one(2), 2)
	checkDue(t, l, 0, 40)
	checkDue(t, l, 1, 41)
	checkDue(t, l, 1000, 1040)
	checkDue(t, l, never-41, never-1)
	checkDue(t, l, never-40, never)
	checkDue(t, l, never-39, never)
	checkDue(t, l, never, never)
	ack(t, l, one(4), 4)
	checkDue(t, l, 30, 30) // of 3
	lose(t, l, 30, 30, 1, 3)
	checkDue(t, l, 30, never)
}

func TestDueOfThreeLessIsByItsTimeToo(t *testing.T) {
	l := ledgerOf(t, asks(5000, 1), asks(6000, 1), asks(6000, 1), asks(6000, 1), asks(6000, 1))
	ack(t, l, one(4), 4)
	checkDue(t, l, 100, 5100)
	lose(t, l, 0, 100, 0, 1)
	checkDue(t, l, 100, 6100)
}

func TestDueIsHeldByNever(t *testing.T) {
	for _, x := range []struct{ first, second, delay, want uint64 }{
		{never, never, 0, never}, {never - 5, never, 4, never - 1}, {never - 5, never, 5, never}, {never - 5, never, 6, never}, {never, never - 5, 4, never - 1},
		{1 << 63, 1<<63 + 1, 1 << 63, never}, {1<<63 - 1, 1 << 63, 1 << 63, never}, {1<<63 - 2, 1 << 63, 1 << 63, never - 1}, {never, 0, 1, 1}, {0, never, 1, 1},
	} {
		l := ledgerOf(t, asks(x.first, 1), asks(x.second, 1), asks(0, 1))
		ack(t, l, one(2), 2)
		checkDue(t, l, x.delay, x.want)
	}
}

func TestAtDueOneIsLostAndNotAhead(t *testing.T) {
	for _, at := range [][2]uint64{{100, 200}, {200, 100}, {7, 7}, {0, 1 << 40}, {never - 10, never}, {never, never - 10}} {
		for _, delay := range []uint64{1, 5, 9, 1000, 1 << 50} {
			of := func() *ledger.Ledger {
				l := ledgerOf(t, asks(at[0], 1), silent(at[1], 1), asks(0, 1))
				ack(t, l, one(2), 2)
				return l
			}
			due := of().Due(delay)
			if got := of().Lost(due-1, delay); len(got) != 0 {
				t.Errorf("Lost(%d, %d) = %v, sent at %v", due-1, delay, numbers(got), at)
			}
			if got := of().Lost(due, delay); len(got) == 0 {
				t.Errorf("Lost(%d, %d) is none, sent at %v", due, delay, at)
			}
		}
	}
}

func TestDueTurnsNothing(t *testing.T) {
	l := ledgerOf(t, many(10)...)
	ack(t, l, one(7), 7)
	checkUnturned(t, l, "Due", func() {
		for _, delay := range []uint64{0, 5, never} {
			l.Due(delay)
		}
	})
}
