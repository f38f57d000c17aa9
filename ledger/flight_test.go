package ledger_test

import (
	"slices"
	"testing"

	"doorward/api"
	"doorward/ledger"
)

// Flight, Last, List, Next and Drop, of P15.2

// checkFlight fails the test, if another thing is in flight.
func checkFlight(t *testing.T, l *ledger.Ledger, want complex128) {
	t.Helper()
	if got := l.Flight(); got != want {
		t.Errorf("Flight() = %v, want %v", got, want)
	}
}

// checkLast fails the test, if the last one in flight was sent at another time.
func checkLast(t *testing.T, l *ledger.Ledger, want uint64, any bool) {
	t.Helper()
	if got, ok := l.Last(); got != want || ok != any {
		t.Errorf("Last() = %d, %v, want %d, %v", got, ok, want, any)
	}
}

func TestFlightOfThoseThatAskAndThoseThatDoNot(t *testing.T) {
	for _, x := range []struct {
		all  []api.Sent
		want complex128
	}{
		{nil, 0},
		{[]api.Sent{silent(5, 100)}, 0},
		{[]api.Sent{silent(5, 100), silent(6, greatest), silent(7, 0)}, 0},
		{[]api.Sent{asks(5, 100)}, 1 + 100i},
		{[]api.Sent{asks(5, 100), asks(5, 100)}, 2 + 200i}, // the chapter's example
		{[]api.Sent{asks(5, 0)}, 1},
		{[]api.Sent{asks(5, 1), silent(5, 2), asks(5, 4), silent(5, 8), asks(5, 16)}, 3 + 21i},
		{slices.Repeat([]api.Sent{asks(never, greatest)}, most), 64 + 76800i},
	} {
		checkFlight(t, ledgerOf(t, x.all...), x.want)
	}
}

func TestFlightIsOfThoseThatAreThere(t *testing.T) {
	l := ledgerOf(t, asks(10, 1), silent(20, 2), asks(30, 4), asks(40, 8), silent(50, 16), asks(60, 32), asks(70, 64))
	checkFlight(t, l, 5+109i)
	ack(t, l, to(1, 2), 1, 2)
	checkFlight(t, l, 4+105i)
	ack(t, l, one(4), 4) // it doesn't ask
	checkFlight(t, l, 4+105i)
	lose(t, l, 0, never, 0)
	checkFlight(t, l, 3+104i)
	lose(t, l, 40, 0, 3)
	checkFlight(t, l, 2+96i)
	send(t, l, 7, silent(80, 128), asks(80, 256))
	checkFlight(t, l, 3+352i)
	l.Drop()
	checkFlight(t, l, 0)
	send(t, l, 9, asks(90, 512))
	checkFlight(t, l, 1+512i)
}

func TestLastIsOfTheLastOneThatAsks(t *testing.T) {
	l := new(ledger.Ledger)
	checkLast(t, l, 0, false)
	send(t, l, 0, silent(10, 5))
	checkLast(t, l, 0, false) // there is one, but not in flight
	send(t, l, 1, asks(20, 5))
	checkLast(t, l, 20, true)
	send(t, l, 2, silent(30, 5)) // a later one that doesn't ask
	checkLast(t, l, 20, true)
	send(t, l, 3, asks(40, 5), silent(50, 5), silent(60, 5))
	checkLast(t, l, 40, true)
	ack(t, l, one(3), 3)
	checkLast(t, l, 20, true)
	ack(t, l, one(1), 1)
	checkLast(t, l, 0, false)
	checkThere(t, l, 0, 2, 4, 5)
}

func TestLastIsTheLastOnesTimeEvenIfAnotherOneIsGreater(t *testing.T) {
	l := ledgerOf(t, asks(never, 5), asks(50, 5), asks(0, 5))
	checkLast(t, l, 0, true) // at 0, and there
	ack(t, l, one(2), 2)
	checkLast(t, l, 50, true)
	lose(t, l, 50, 0, 1)
	checkLast(t, l, never, true)
	l.Drop()
	checkLast(t, l, 0, false)
}

func TestListIsAllByRisingNumbers(t *testing.T) {
	l := ledgerOf(t, many(most)...)
	checkThere(t, l, rising(0, most-1)...)
	ack(t, l, []api.Range{span(60, 62), span(9, 9)}, 9, 60, 61, 62)
	lose(t, l, 0, never, slices.Concat(rising(0, 8), rising(10, 59))...)
	checkThere(t, l, 63)
	send(t, l, 64, many(3)...)
	checkThere(t, l, 63, 64, 65, 66)
	if got := times(l.List()); !slices.Equal(got, []uint64{1063, 1000, 1001, 1002}) {
		t.Errorf("they were sent at %v", got)
	}
}

func TestNextGoesOnWhateverGoes(t *testing.T) {
	l := ledgerOf(t, many(6)...)
	next := func(want int64) {
		t.Helper()
		if got := l.Next(); got != want {
			t.Errorf("Next() = %d, want %d", got, want)
		}
	}
	ack(t, l, one(5), 5)
	next(6)
	lose(t, l, 0, never, 0, 1, 2)
	next(6)
	l.Drop()
	next(6)
	l.Send(asks(5, -1))
	next(6)
	send(t, l, 6, asks(5, 5))
	next(7)
	l.Drop()
	l.Drop()
	next(7)
}

func TestDropLetsAllGo(t *testing.T) {
	for _, count := range []int{0, 1, 2, most - 1, most} {
		l := ledgerOf(t, many(count)...)
		if got := l.Drop(); got != count {
			t.Errorf("Drop() = %d of %d", got, count)
		}
		if got := l.Drop(); got != 0 {
			t.Errorf("Drop() = %d behind another one", got)
		}
		checkThere(t, l)
		checkFlight(t, l, 0)
		checkLast(t, l, 0, false)
		send(t, l, int64(count), many(most)...) // numbers go on
		checkThere(t, l, rising(int64(count), int64(count)+most-1)...)
	}
}

func TestDropCountsThoseThatDoNotAskToo(t *testing.T) {
	l := ledgerOf(t, asks(5, 10), silent(5, 10), asks(5, 10), silent(5, 10))
	ack(t, l, one(0), 0)
	if got := l.Drop(); got != 3 {
		t.Errorf("Drop() = %d", got)
	}
	if l.Acked() != 0 || l.Due(5) != never {
		t.Errorf("Acked() = %d, Due(5) = %d", l.Acked(), l.Due(5))
	}
}
