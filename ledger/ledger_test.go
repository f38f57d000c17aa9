package ledger_test

import (
	"math"
	"reflect"
	"slices"
	"testing"

	"doorward/api"
	"doorward/ledger"
)

// The greatest number of 64 bits, how many packets a ledger has, and how many bytes a packet, written down apart from the program's.
const (
	never    uint64 = 18446744073709551615
	most            = 64
	greatest        = 1200
)

// asks is a packet that asks to be acked, silent one that doesn't.
func asks(at uint64, size int) api.Sent   { return api.Sent{At: at, Size: size, Ask: true} }
func silent(at uint64, size int) api.Sent { return api.Sent{At: at, Size: size} }

// many are so many packets that ask, one tick behind the other from 1000 on.
func many(count int) []api.Sent {
	var all []api.Sent
	for i := range count {
		all = append(all, asks(uint64(1000+i), 10+i))
	}
	return all
}

// ledgerOf is a ledger by which packets were sent, with the numbers from 0 on.
func ledgerOf(t *testing.T, all ...api.Sent) *ledger.Ledger {
	t.Helper()
	l := new(ledger.Ledger)
	send(t, l, 0, all...)
	return l
}

// send sends packets, and fails the test, if their numbers don't go on from that one.
func send(t *testing.T, l *ledger.Ledger, from int64, all ...api.Sent) {
	t.Helper()
	for i, p := range all {
		if n, e := l.Send(p); n != from+int64(i) || e != api.OK {
			t.Fatalf("Send(%+v) = %d, %d, want %d", p, n, e, from+int64(i))
		}
	}
}

// ack acks ranges, and fails the test, if those that go aren't just these.
func ack(t *testing.T, l *ledger.Ledger, r []api.Range, want ...int64) []api.Sent {
	t.Helper()
	gone, e := l.Ack(r)
	if e != api.OK || !slices.Equal(numbers(gone), want) {
		t.Fatalf("Ack(%v) = %v, %d, want %v", r, numbers(gone), e, want)
	}
	return gone
}

// lose fails the test, if those that are lost aren't just these.
func lose(t *testing.T, l *ledger.Ledger, now, delay uint64, want ...int64) []api.Sent {
	t.Helper()
	gone := l.Lost(now, delay)
	if !slices.Equal(numbers(gone), want) {
		t.Fatalf("Lost(%d, %d) = %v, want %v", now, delay, numbers(gone), want)
	}
	return gone
}

func span(lo, hi uint64) api.Range   { return api.Range{Lo: lo, Hi: hi} }
func one(n uint64) []api.Range       { return []api.Range{span(n, n)} }
func to(lo, hi uint64) []api.Range   { return []api.Range{span(lo, hi)} }
func numbers(all []api.Sent) []int64 { return each(all, func(p api.Sent) int64 { return p.Number }) }
func times(all []api.Sent) []uint64  { return each(all, func(p api.Sent) uint64 { return p.At }) }

func each[N any](all []api.Sent, of func(api.Sent) N) []N {
	var list []N
	for _, p := range all {
		list = append(list, of(p))
	}
	return list
}

// checkThere fails the test, if the packets that are there aren't just these.
func checkThere(t *testing.T, l *ledger.Ledger, want ...int64) {
	t.Helper()
	if got := numbers(l.List()); !slices.Equal(got, want) {
		t.Fatalf("List() = %v, want %v", got, want)
	}
}

// told is all that a ledger tells of itself.
type told struct {
	list        []api.Sent
	flight      complex128
	next, acked int64
	due, last   uint64
	any         bool
}

func tell(l *ledger.Ledger) told {
	last, any := l.Last()
	return told{l.List(), l.Flight(), l.Next(), l.Acked(), l.Due(7), last, any}
}

// checkUnturned fails the test, if something is told in another way behind what is done.
func checkUnturned(t *testing.T, l *ledger.Ledger, what string, do func()) {
	t.Helper()
	ahead := tell(l)
	do()
	if behind := tell(l); !reflect.DeepEqual(ahead, behind) {
		t.Fatalf("%s turns %+v to %+v", what, ahead, behind)
	}
}

// P15.1

func TestAZeroLedgerHasNone(t *testing.T) {
	var l ledger.Ledger
	if got := tell(&l); !reflect.DeepEqual(got, told{acked: -1, due: never}) {
		t.Errorf("%+v", got)
	}
	lose(t, &l, never, 0)
	ack(t, &l, nil)
	if got := l.Drop(); got != 0 {
		t.Errorf("Drop() = %d", got)
	}
}

func TestSendTellsNumbersFromZeroOn(t *testing.T) {
	l := new(ledger.Ledger)
	for i := range int64(most) {
		if l.Next() != i {
			t.Fatalf("Next() = %d, want %d", l.Next(), i)
		}
		p := asks(5, 10)
		if i%3 == 0 {
			p = silent(5, 10)
		}
		send(t, l, i, p)
	}
	for i, p := range l.List() {
		if p.Number != int64(i) {
			t.Errorf("the packet at %d has the number %d", i, p.Number)
		}
	}
}

func TestSendDoesNotTakeTheNumberOfThePacket(t *testing.T) {
	l := new(ledger.Ledger)
	for i, n := range []int64{99, 0, 1, 2, -1, math.MinInt64, math.MaxInt64, api.MaxInt, 7} {
		send(t, l, int64(i), api.Sent{Number: n, At: 5, Size: 10})
	}
	checkThere(t, l, 0, 1, 2, 3, 4, 5, 6, 7, 8)
}

func TestSendNotesAllThatAPacketHas(t *testing.T) {
	all := []api.Sent{
		{At: 5, Size: 10},
		{At: never, Size: greatest, Ask: true, Frames: []api.Frame{{Kind: api.Ping}}},
		{At: 1, Ask: true, Frames: []api.Frame{
			{Kind: api.Ack, Ranges: []api.Range{span(7, 9), span(1, 2)}, B: 6},
			{Kind: api.Stream, Id: 3, A: 8, Flag: true, Data: []byte("some")},
			{Kind: api.NewCid, Id: 1, A: 2, Code: 4, Data: []byte("12345678"), Token: [16]byte{1, 15: 2}},
		}},
		{At: 5, Size: 1, Frames: []api.Frame{{Kind: -3}, {}}}, // what no packet carries, too
	}
	l := ledgerOf(t, all...)
	for i := range all {
		all[i].Number = int64(i)
	}
	if got := l.List(); !reflect.DeepEqual(got, all) {
		t.Errorf("List() = %+v, want %+v", got, all)
	}
	if got := ack(t, l, to(1, 2), 1, 2); !reflect.DeepEqual(got, all[1:3]) {
		t.Errorf("Ack() = %+v, want %+v", got, all[1:3])
	}
	if got := lose(t, l, 5, 0, 0); !reflect.DeepEqual(got, all[:1]) {
		t.Errorf("Lost() = %+v, want %+v", got, all[:1])
	}
	if got := l.List(); !reflect.DeepEqual(got, all[3:]) {
		t.Errorf("List() = %+v, want %+v", got, all[3:])
	}
}

func TestSendOfSizes(t *testing.T) {
	l := new(ledger.Ledger)
	for i, size := range []int{0, 1, 2, 600, greatest - 1, greatest} {
		send(t, l, int64(i), asks(5, size))
	}
	for _, size := range []int{-1, -2, -greatest, math.MinInt, math.MinInt + 1, greatest + 1, greatest + 2, 1 << 32, 1<<32 + 5, math.MaxInt} {
		for _, ask := range []bool{false, true} {
			checkUnturned(t, l, "a packet that is refused", func() {
				if n, e := l.Send(api.Sent{Number: 3, At: 6, Size: size, Ask: ask}); n != 0 || e != api.ErrArg {
					t.Errorf("Send() = %d, %d, of the size %d", n, e, size)
				}
			})
		}
	}
	send(t, l, 6, asks(7, 5)) // what was refused has no number
	checkThere(t, l, 0, 1, 2, 3, 4, 5, 6)
}

func TestSendOfMoreThanALedgerHas(t *testing.T) {
	for _, p := range []api.Sent{asks(5, 100), silent(5, 100), asks(5, 0)} {
		l := ledgerOf(t, slices.Repeat([]api.Sent{p}, most-1)...)
		send(t, l, most-1, p)
		for _, other := range []api.Sent{asks(6, 0), silent(6, greatest)} {
			checkUnturned(t, l, "the 65th packet", func() {
				if n, e := l.Send(other); n != 0 || e != api.ErrFull {
					t.Errorf("Send() = %d, %d, of %d packets", n, e, most)
				}
			})
		}
		for _, size := range []int{-1, greatest + 1} {
			if n, e := l.Send(asks(6, size)); n != 0 || e != api.ErrArg {
				t.Errorf("Send() = %d, %d, of %d packets and the size %d", n, e, most, size)
			}
		}
	}
}

func TestWhatGoesMakesRoom(t *testing.T) {
	l := ledgerOf(t, many(most)...)
	full := func() {
		t.Helper()
		if n, e := l.Send(asks(6, 1)); n != 0 || e != api.ErrFull {
			t.Fatalf("Send() = %d, %d, of %d packets", n, e, len(l.List()))
		}
	}
	full()
	ack(t, l, one(10), 10)
	send(t, l, 64, asks(6, 1))
	full()
	lose(t, l, 0, never, 0, 1, 2, 3, 4, 5, 6, 7)
	send(t, l, 65, many(8)...)
	full()
	if got := l.Drop(); got != most {
		t.Fatalf("Drop() = %d", got)
	}
	send(t, l, 73, many(most)...)
	full()
}

// Ack, of P15.1

func TestAckOfOneOfSeveralOfAll(t *testing.T) {
	for _, x := range []struct {
		r           []api.Range
		gone, there []int64
		acked       int64
	}{
		{one(0), []int64{0}, []int64{1, 2, 3, 4, 5, 6, 7}, 0},
		{one(3), []int64{3}, []int64{0, 1, 2, 4, 5, 6, 7}, 3},
		{one(7), []int64{7}, []int64{0, 1, 2, 3, 4, 5, 6}, 7},
		{to(2, 4), []int64{2, 3, 4}, []int64{0, 1, 5, 6, 7}, 4},
		{to(0, 7), []int64{0, 1, 2, 3, 4, 5, 6, 7}, nil, 7},
		{[]api.Range{span(6, 7), span(3, 3), span(0, 1)}, []int64{0, 1, 3, 6, 7}, []int64{2, 4, 5}, 7},
		{[]api.Range{span(0, 1), span(6, 6), span(3, 3)}, []int64{0, 1, 3, 6}, []int64{2, 4, 5, 7}, 6},
		{[]api.Range{span(5, 5), span(4, 4), span(3, 3)}, []int64{3, 4, 5}, []int64{0, 1, 2, 6, 7}, 5},
		{[]api.Range{span(2, 5), span(4, 6), span(2, 5), span(3, 3)}, []int64{2, 3, 4, 5, 6}, []int64{0, 1, 7}, 6},
	} {
		l := ledgerOf(t, many(8)...)
		gone := ack(t, l, x.r, x.gone...)
		checkThere(t, l, x.there...)
		if got := l.Acked(); got != x.acked {
			t.Errorf("Acked() = %d behind %v, want %d", got, x.r, x.acked)
		}
		for _, p := range gone {
			if want := many(8)[p.Number]; p.At != want.At || p.Size != want.Size || p.Ask != want.Ask {
				t.Errorf("%+v goes, want %+v", p, want)
			}
		}
	}
}

func TestAckOfPacketsThatDoNotAsk(t *testing.T) {
	l := ledgerOf(t, silent(5, 10), asks(6, 10), silent(7, 10), silent(8, 10))
	ack(t, l, to(1, 2), 1, 2)
	ack(t, l, one(3), 3)
	if got := l.Acked(); got != 3 {
		t.Errorf("Acked() = %d", got)
	}
	checkThere(t, l, 0)
}

func TestAckOfNoNumber(t *testing.T) {
	for _, sent := range []int{0, 1, 8} {
		l, next := ledgerOf(t, many(sent)...), uint64(sent)
		for _, r := range [][]api.Range{
			nil, {}, make([]api.Range, 0, 5), to(1, 0), to(5, 4), to(7, 2), to(8, 7), to(next+1, next), to(next+2, next+1),
			to(never, 0), to(never, never-1), to(never, next), to(1<<63, 1), to(1<<63, 1<<63-1), {span(9, 8), span(never, 5), span(2, 1)},
		} {
			checkUnturned(t, l, "no number", func() { ack(t, l, r) })
		}
		if got := l.Acked(); got != -1 {
			t.Errorf("Acked() = %d", got)
		}
	}
}

func TestAckOfEmptyRangesBesideOthers(t *testing.T) {
	l := ledgerOf(t, many(8)...)
	ack(t, l, []api.Range{span(7, 6), span(4, 5), span(never, 2), span(100, 99)}, 4, 5)
	if got := l.Acked(); got != 5 {
		t.Errorf("Acked() = %d", got)
	}
}

func TestAckOfNumbersThatWereNotSent(t *testing.T) {
	for _, sent := range []int{0, 1, 8} {
		l, next := ledgerOf(t, many(sent)...), uint64(sent)
		for _, wrong := range []api.Range{
			span(next, next), span(0, next), span(next, next+1), span(next+1, next+1), span(next-min(next, 1), next+2), span(0, never), span(never, never), span(never-1, never),
			span(0, 1<<63), span(1<<63, 1<<63), span(0, 1<<63-1), span(1<<63-1, 1<<63), span(0, 1<<32), span(1<<32, 1<<32), span(next, never), span(0, api.MaxInt),
		} {
			for _, r := range [][]api.Range{{wrong}, {wrong, span(0, 0)}, {span(5, 4), wrong}, {span(5, 4), wrong, span(2, 1)}} {
				if sent > 0 {
					r = append([]api.Range{span(0, next-1)}, r...)
				}
				checkUnturned(t, l, "a number that wasn't sent", func() {
					if gone, e := l.Ack(r); len(gone) != 0 || e != api.ErrForm {
						t.Errorf("Ack(%v) = %v, %d, of %d packets", r, numbers(gone), e, sent)
					}
				})
			}
		}
		if sent > 0 {
			ack(t, l, one(next-1), int64(next-1))
		}
	}
}

func TestAckUpToTheNumberAheadOfTheNextOne(t *testing.T) {
	l := new(ledger.Ledger)
	for i := range uint64(most) {
		if gone, e := l.Ack(one(i)); len(gone) != 0 || e != api.ErrForm {
			t.Fatalf("Ack(%d) = %v, %d, where %d is the next one", i, gone, e, i)
		}
		send(t, l, int64(i), asks(i, 5))
		ack(t, l, to(0, i), int64(i))
	}
}

func TestAckOfNumbersThatAreThereNoMore(t *testing.T) {
	l := ledgerOf(t, many(10)...)
	ack(t, l, to(3, 6), 3, 4, 5, 6)
	lose(t, l, 0, never, 0, 1, 2)
	checkUnturned(t, l, "what went", func() {
		ack(t, l, to(3, 6)) // acked
		ack(t, l, to(0, 2)) // lost
		ack(t, l, one(4))
		ack(t, l, to(0, 6))
	})
	ack(t, l, to(2, 8), 7, 8)
	l.Drop()
	checkUnturned(t, l, "what was dropped", func() {
		ack(t, l, one(9))
		ack(t, l, to(0, 9))
	})
	if got := l.Acked(); got != 8 { // 9 was dropped, and isn't acked
		t.Errorf("Acked() = %d", got)
	}
}

func TestWhatIsDroppedIsNotAckedAnyMore(t *testing.T) {
	l := ledgerOf(t, many(3)...)
	l.Drop()
	ack(t, l, to(0, 2))
	if got := l.Acked(); got != -1 {
		t.Errorf("Acked() = %d", got)
	}
	send(t, l, 3, many(2)...)
	lose(t, l, never, 0)
	ack(t, l, to(0, 3), 3)
	if got := l.Acked(); got != 3 {
		t.Errorf("Acked() = %d", got)
	}
}

func TestAckedIsTheGreatestOneThatWas(t *testing.T) {
	l := ledgerOf(t, many(8)...)
	for _, x := range []struct {
		n    uint64
		want int64
	}{{2, 2}, {0, 2}, {1, 2}, {3, 3}, {6, 6}, {5, 6}, {3, 6}, {7, 7}, {4, 7}} {
		if _, e := l.Ack(one(x.n)); e != api.OK || l.Acked() != x.want {
			t.Errorf("Acked() = %d behind %d, want %d", l.Acked(), x.n, x.want)
		}
	}
}

func TestAckOfManyRanges(t *testing.T) {
	l := ledgerOf(t, many(most)...)
	var r []api.Range
	var want []int64
	for i := range uint64(5000) {
		r = append(r, span(i%21*3, i%21*3))
	}
	for i := range int64(21) {
		want = append(want, i*3)
	}
	ack(t, l, r, want...)
}

// Of a nil ledger, of P15.1 and P15.2

func TestANilLedgerHasNone(t *testing.T) {
	var l *ledger.Ledger
	for _, p := range []api.Sent{{}, asks(5, 10), asks(5, -1)} {
		if n, e := l.Send(p); n != 0 || e != api.ErrArg {
			t.Errorf("Send(%+v) = %d, %d", p, n, e)
		}
	}
	for _, r := range [][]api.Range{nil, one(0), to(0, never), to(5, 4)} {
		if gone, e := l.Ack(r); len(gone) != 0 || e != api.ErrArg {
			t.Errorf("Ack(%v) = %v, %d", r, gone, e)
		}
	}
	for _, n := range []uint64{0, 1, never} {
		lose(t, l, n, n)
		if got := l.Due(n); got != never {
			t.Errorf("Due(%d) = %d", n, got)
		}
	}
	if got := tell(l); !reflect.DeepEqual(got, told{acked: -1, due: never}) {
		t.Errorf("%+v", got)
	}
	if got := l.Drop(); got != 0 {
		t.Errorf("Drop() = %d", got)
	}
}
