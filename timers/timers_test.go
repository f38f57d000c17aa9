package timers_test

import (
	"math"
	"math/rand"
	"slices"
	"testing"

	"doorward/api"
	"doorward/timers"
)

// never is the greatest number of 64 bits, most how many timers there may be; both are written down apart from the program's.
const (
	never uint64 = 18446744073709551615
	most         = 200
)

// someNumbers are connections and kinds of all sizes, rising.
func someNumbers() []int {
	return []int{math.MinInt, math.MinInt + 1, -1 << 32, -2, -1, 0, 1, 2, 1 << 32, math.MaxInt - 1, math.MaxInt}
}

// at is a timer.
func at(time uint64, conn, kind int) api.Timer { return api.Timer{At: time, Conn: conn, Kind: kind} }

// set sets timers, and fails the test, if one isn't.
func set(t *testing.T, q *timers.Queue, all ...api.Timer) {
	t.Helper()
	for _, x := range all {
		if !q.Set(x) {
			t.Fatalf("Set(%v) = false, with %d timers", x, q.Len())
		}
	}
}

// setNot fails the test, if a timer is set.
func setNot(t *testing.T, q *timers.Queue, x api.Timer) {
	t.Helper()
	if q.Set(x) {
		t.Fatalf("Set(%v) = true, with %d timers", x, q.Len())
	}
}

// queueOf is a queue in which timers were set.
func queueOf(t *testing.T, all ...api.Timer) *timers.Queue {
	t.Helper()
	q := timers.New()
	set(t, q, all...)
	return q
}

// many are so many timers, of connections from 0 on, at rising times from 1000 on.
func many(count int) []api.Timer {
	var all []api.Timer
	for i := range count {
		all = append(all, at(uint64(1000+i), i, 0))
	}
	return all
}

// has fails the test, if what there is isn't just this, those ahead that come ahead; all calls that only ask are asked.
func has(t *testing.T, q *timers.Queue, want ...api.Timer) {
	t.Helper()
	if got := q.List(); !slices.Equal(got, want) {
		t.Fatalf("List() = %v, want %v", got, want)
	}
	if got := q.Len(); got != len(want) {
		t.Fatalf("Len() = %d, want %d", got, len(want))
	}
	first := never
	for i, x := range want {
		if i == 0 {
			first = x.At
		}
		isAt(t, q, x.Conn, x.Kind, x.At)
	}
	if got := q.Next(); got != first {
		t.Fatalf("Next() = %d, want %d", got, first)
	}
}

// isAt fails the test, if a timer isn't at that time.
func isAt(t *testing.T, q *timers.Queue, conn, kind int, want uint64) {
	t.Helper()
	if got := q.At(conn, kind); got != want {
		t.Fatalf("At(%d, %d) = %d, want %d", conn, kind, got, want)
	}
}

// due fails the test, if it isn't just this one that goes by now.
func due(t *testing.T, q *timers.Queue, now uint64, want api.Timer) {
	t.Helper()
	if got, ok := q.Due(now); got != want || !ok {
		t.Fatalf("Due(%d) = %v, %v, want %v", now, got, ok, want)
	}
}

// dueNot fails the test, if one is due by now.
func dueNot(t *testing.T, q *timers.Queue, now uint64) {
	t.Helper()
	if got, ok := q.Due(now); got != (api.Timer{}) || ok {
		t.Fatalf("Due(%d) = %v, %v", now, got, ok)
	}
}

// dueAll fails the test, if it isn't just these that go one behind the other by now.
func dueAll(t *testing.T, q *timers.Queue, now uint64, want ...api.Timer) {
	t.Helper()
	for _, x := range want {
		due(t, q, now, x)
	}
	dueNot(t, q, now)
}

// cancels fails the test, if Cancel doesn't answer that.
func cancels(t *testing.T, q *timers.Queue, conn, kind int, want bool) {
	t.Helper()
	if q.Cancel(conn, kind) != want {
		t.Fatalf("Cancel(%d, %d) = %v", conn, kind, !want)
	}
	isAt(t, q, conn, kind, never)
}

// drops fails the test, if Drop doesn't answer that.
func drops(t *testing.T, q *timers.Queue, conn, want int) {
	t.Helper()
	if got := q.Drop(conn); got != want {
		t.Fatalf("Drop(%d) = %d, want %d", conn, got, want)
	}
}

// ordered fails the test, if timers that were set in whatever order aren't in this one, in a list and as they are due.
func ordered(t *testing.T, setSo []api.Timer, want ...api.Timer) {
	t.Helper()
	q := queueOf(t, setSo...)
	has(t, q, want...)
	for i, x := range want {
		due(t, q, never, x)
		has(t, q, want[i+1:]...)
	}
	dueNot(t, q, never)
}

// eachOrder calls for all orders of timers.
func eachOrder(all []api.Timer, call func(order []api.Timer)) {
	var step func(done, left []api.Timer)
	step = func(done, left []api.Timer) {
		if len(left) == 0 {
			call(done)
		}
		for i, x := range left {
			rest := slices.Delete(slices.Clone(left), i, i+1)
			step(append(slices.Clone(done), x), rest)
		}
	}
	step(nil, all)
}

// without are timers without the one of a place.
func without(all []api.Timer, place int) []api.Timer {
	return slices.Delete(slices.Clone(all), place, place+1)
}

// mixed are timers in an order that neither rises nor falls, but for a few of them; it is the same each time.
func mixed(all []api.Timer) []api.Timer {
	order := slices.Clone(all)
	rand.New(rand.NewSource(12)).Shuffle(len(order), func(i, j int) { order[i], order[j] = order[j], order[i] })
	return order
}

// P12.1

func TestANewQueueHasNone(t *testing.T) {
	q := timers.New()
	if q == nil {
		t.Fatal("New() = nil")
	}
	hasNone(t, q)
	set(t, q, at(1, 2, 3))
	has(t, q, at(1, 2, 3))
}

// hasNone fails the test, if a queue has anything, or any call answers as if it had.
func hasNone(t *testing.T, q *timers.Queue) {
	t.Helper()
	has(t, q)
	for _, now := range []uint64{0, 1, 1 << 63, never - 1, never} {
		dueNot(t, q, now)
	}
	for _, conn := range someNumbers() {
		drops(t, q, conn, 0)
		for _, kind := range someNumbers() {
			cancels(t, q, conn, kind, false)
		}
	}
	has(t, q)
}

func TestANilQueueHasNone(t *testing.T) {
	var q *timers.Queue
	hasNone(t, q)
	for _, time := range []uint64{0, 1, never - 1, never} {
		setNot(t, q, at(time, 0, 0))
		setNot(t, q, at(time, -1, 5))
	}
	hasNone(t, q)
}

func TestAQueueThatNobodyMadePanicsNot(t *testing.T) {
	q := new(timers.Queue) // it is nobody's, but no call panics
	hasNone(t, q)
	set(t, q, at(never, 1, 1), at(9, 1, 1), at(5, 1, 2))
	dueAll(t, q, 9, at(5, 1, 2), at(9, 1, 1))
	hasNone(t, q)
}

func TestQueuesAreApart(t *testing.T) {
	a, b := queueOf(t, at(5, 1, 1)), queueOf(t, at(7, 1, 1), at(8, 2, 1))
	has(t, a, at(5, 1, 1))
	drops(t, b, 1, 1)
	has(t, a, at(5, 1, 1))
	has(t, b, at(8, 2, 1))
	due(t, a, 5, at(5, 1, 1))
	has(t, b, at(8, 2, 1))
}

func TestOne(t *testing.T) {
	for _, time := range []uint64{0, 1, 5, 31000, 1 << 63, never - 1} {
		for _, number := range someNumbers() {
			x := at(time, number, -number)
			q := queueOf(t, x)
			has(t, q, x)
			cancels(t, q, number, -number, true)
			hasNone(t, q)
			set(t, q, x)
			drops(t, q, number, 1)
			hasNone(t, q)
			set(t, q, x)
			due(t, q, time, x)
			hasNone(t, q)
		}
	}
}

func TestSetInEachOrder(t *testing.T) {
	want := []api.Timer{at(10, 5, 1), at(20, 1, 1), at(20, 3, 1), at(50, 0, 1), at(70, 4, 1), at(90, 2, 1)}
	eachOrder(want, func(order []api.Timer) { ordered(t, order, want...) })
}

func TestSetInRisingFallingAndMixedOrder(t *testing.T) {
	for count := 1; count <= most; count++ {
		want := many(count)
		falling := slices.Clone(want)
		slices.Reverse(falling)
		ordered(t, want, want...)
		ordered(t, falling, want...)
		ordered(t, mixed(want), want...)
	}
}

func TestSetOfOneConnection(t *testing.T) {
	want := []api.Timer{at(1, 7, 4), at(2, 7, 3), at(3, 7, 9), at(4, 7, 0), at(5, 7, -6)}
	eachOrder(want, func(order []api.Timer) { ordered(t, order, want...) })
}

func TestOfTheSameTimeThoseAheadOfLessConnections(t *testing.T) {
	want := []api.Timer{at(5, -3, 9), at(5, -1, 2), at(5, 0, 7), at(5, 1, 1), at(5, 2, 8), at(5, 40, -9)}
	eachOrder(want, func(order []api.Timer) { ordered(t, order, want...) })
}

func TestOfTheSameTimeAndConnectionThoseAheadOfLessKinds(t *testing.T) {
	want := []api.Timer{at(5, 3, -9), at(5, 3, -1), at(5, 3, 0), at(5, 3, 1), at(5, 3, 2), at(5, 3, 40)}
	eachOrder(want, func(order []api.Timer) { ordered(t, order, want...) })
}

func TestTheTimeCountsAheadOfTheConnectionAndThatAheadOfTheKind(t *testing.T) {
	want := []api.Timer{at(4, 9, 9), at(5, 1, 8), at(5, 1, 9), at(5, 2, 1), at(5, 2, 2), at(6, 0, 0)}
	eachOrder(want, func(order []api.Timer) { ordered(t, order, want...) })
}

func TestConnectionsAndKindsOfAllSizes(t *testing.T) {
	for _, time := range []uint64{0, 5, never - 1} {
		var want []api.Timer
		for _, conn := range someNumbers() {
			for _, kind := range someNumbers() {
				want = append(want, at(time, conn, kind))
			}
		}
		ordered(t, want, want...)
		ordered(t, mixed(want), want...)
		q := queueOf(t, mixed(want)...)
		for len(want) > 0 {
			size := len(someNumbers())
			cancels(t, q, want[size/2].Conn, want[size/2].Kind, true)
			drops(t, q, want[0].Conn, size-1)
			want = want[size:]
			has(t, q, want...)
		}
	}
}

func TestTimesOfAllSizes(t *testing.T) {
	want := []api.Timer{at(0, 3, 3), at(1, 3, 2), at(1<<31, 2, 3), at(1<<32, 2, 2), at(1<<63-1, 1, 3), at(1<<63, 1, 2), at(never-1, 0, 3)}
	eachOrder(want[:5], func(order []api.Timer) { ordered(t, order, want[:5]...) })
	eachOrder(want[2:], func(order []api.Timer) { ordered(t, order, want[2:]...) })
}

func TestWhoseATimerIsIsBothItsConnectionAndItsKind(t *testing.T) {
	q := queueOf(t, at(10, 1, 2), at(20, 2, 1), at(30, 1, 1), at(40, 2, 2))
	has(t, q, at(10, 1, 2), at(20, 2, 1), at(30, 1, 1), at(40, 2, 2))
	set(t, q, at(25, 1, 2))
	has(t, q, at(20, 2, 1), at(25, 1, 2), at(30, 1, 1), at(40, 2, 2))
	cancels(t, q, 2, 1, true)
	has(t, q, at(25, 1, 2), at(30, 1, 1), at(40, 2, 2))
	isAt(t, q, 2, 3, never)
	isAt(t, q, 3, 2, never)
}

func TestSetAnew(t *testing.T) {
	q := queueOf(t, at(5, 1, 1))
	for _, time := range []uint64{9, 5, 4, 0, never - 1, 0, 100, 100, 99} { // later, earlier, and the same
		set(t, q, at(time, 1, 1))
		has(t, q, at(time, 1, 1))
	}
	set(t, q, at(50, 2, 1), at(60, 1, 2), at(30, 1, 1))
	has(t, q, at(30, 1, 1), at(50, 2, 1), at(60, 1, 2))
	set(t, q, at(55, 1, 1))
	has(t, q, at(50, 2, 1), at(55, 1, 1), at(60, 1, 2))
	set(t, q, at(50, 1, 1)) // the same time as another one's
	has(t, q, at(50, 1, 1), at(50, 2, 1), at(60, 1, 2))
	set(t, q, at(70, 1, 1))
	has(t, q, at(50, 2, 1), at(60, 1, 2), at(70, 1, 1))
}

func TestSetAnewOfEachToEachPlace(t *testing.T) {
	for count := 1; count <= 20; count++ {
		var all []api.Timer
		for i := range count {
			all = append(all, at(uint64(10*i+10), i, 0))
		}
		for from := range all {
			for to := range count + 1 { // ahead of the one of each place, and behind all
				q := queueOf(t, mixed(all)...)
				x := at(uint64(10*to+5), from, 0)
				set(t, q, x)
				has(t, q, behindSet(all, from, to, x)...)
				dueAll(t, q, never, behindSet(all, from, to, x)...)
			}
		}
	}
}

// behindSet are timers in order, when the one of a place is there as another one, ahead of what stood at some place.
func behindSet(all []api.Timer, from, to int, x api.Timer) []api.Timer {
	if to > from {
		to--
	}
	return slices.Insert(without(all, from), to, x)
}

func TestSetAtNeverOfOneThatIsThere(t *testing.T) {
	want := many(20)
	for place := range want {
		q := queueOf(t, mixed(want)...)
		set(t, q, at(never, place, 0))
		has(t, q, without(want, place)...)
		isAt(t, q, place, 0, never)
		cancels(t, q, place, 0, false)
		dueAll(t, q, never, without(want, place)...)
	}
}

func TestSetAtNeverOfNone(t *testing.T) {
	q := timers.New()
	for range 2 * most {
		set(t, q, at(never, 1, 1), at(never, 1, 2), at(never, -1, 0))
		hasNone(t, q)
	}
	set(t, q, at(5, 1, 1), at(never, 1, 2), at(never, 2, 1))
	has(t, q, at(5, 1, 1))
	for i := range most { // none of them takes room
		set(t, q, at(never, i, 7))
	}
	has(t, q, at(5, 1, 1))
}

func TestSetAtOneLessThanNever(t *testing.T) {
	q := queueOf(t, at(never-1, 1, 1))
	has(t, q, at(never-1, 1, 1))
	dueNot(t, q, never-2)
	due(t, q, never-1, at(never-1, 1, 1))
	hasNone(t, q)
}

func TestThereAreAtMost200(t *testing.T) {
	want := many(most)
	q := queueOf(t, mixed(want[:most-1])...)
	has(t, q, want[:most-1]...)
	set(t, q, want[most-1]) // the 200th
	has(t, q, want...)
	for _, x := range []api.Timer{at(0, most, 0), at(1, 0, 1), at(1000, -1, 0), at(1100, 5, -1), at(9999, math.MaxInt, math.MaxInt), at(never-1, math.MinInt, 0)} {
		setNot(t, q, x)
		has(t, q, want...)
		isAt(t, q, x.Conn, x.Kind, never)
		cancels(t, q, x.Conn, x.Kind, false)
	}
	dueAll(t, q, never, want...)
}

func TestAmong200OneThatIsThereIsSetAnew(t *testing.T) {
	want := many(most)
	for place := range want {
		q := queueOf(t, mixed(want)...)
		first, last := at(0, place, 0), at(9999, place, 0)
		set(t, q, first)
		has(t, q, behindSet(want, place, 0, first)...)
		setNot(t, q, at(0, most, 0))
		set(t, q, last)
		has(t, q, behindSet(want, place, most, last)...)
		setNot(t, q, at(0, most, 0))
		set(t, q, want[place])
		has(t, q, want...)
	}
}

func TestSetAtNeverWhereThereAre200Others(t *testing.T) {
	want := many(most)
	q := queueOf(t, want...)
	set(t, q, at(never, most, 0), at(never, 0, 1), at(never, -1, -1))
	has(t, q, want...)
	set(t, q, at(never, 70, 0)) // one of the 200
	has(t, q, without(want, 70)...)
	set(t, q, at(never, 70, 0))
	set(t, q, at(2000, most, 0))
	has(t, q, append(without(want, 70), at(2000, most, 0))...)
	setNot(t, q, at(1, 70, 0))
}

func TestThereIsRoomBehindWhatGoes(t *testing.T) {
	want := many(most)
	for name, goes := range map[string]func(q *timers.Queue) bool{
		"Cancel":       func(q *timers.Queue) bool { return q.Cancel(0, 0) },
		"Drop":         func(q *timers.Queue) bool { return q.Drop(0) == 1 },
		"Set at Never": func(q *timers.Queue) bool { return q.Set(at(never, 0, 0)) },
		"Due":          func(q *timers.Queue) bool { _, ok := q.Due(1000); return ok },
	} {
		q := queueOf(t, want...)
		for range 3 {
			setNot(t, q, at(3000, most, 0))
			if !goes(q) {
				t.Fatalf("%s: nothing goes", name)
			}
			has(t, q, want[1:]...)
			set(t, q, at(3000, most, 0))
			has(t, q, append(slices.Clone(want[1:]), at(3000, most, 0))...)
			cancels(t, q, most, 0, true)
			set(t, q, want[0])
		}
	}
}
