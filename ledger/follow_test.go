package ledger_test

import (
	"math/rand"
	"testing"

	"doorward/api"
	"doorward/ledger"
)

// P15.3

// fates are what became of each packet, by its number.
type fates struct {
	sent                 []api.Sent
	acked, lost, dropped map[int64]bool
}

func newFates() *fates {
	return &fates{acked: map[int64]bool{}, lost: map[int64]bool{}, dropped: map[int64]bool{}}
}

// note notes that packets went by one of the three.
func (f *fates) note(t *testing.T, went map[int64]bool, gone []api.Sent) {
	t.Helper()
	for i, p := range gone {
		if i > 0 && gone[i-1].Number >= p.Number {
			t.Fatalf("%v don't rise", numbers(gone))
		}
		if p.Number < 0 || p.Number >= int64(len(f.sent)) {
			t.Fatalf("%d goes, of %d packets", p.Number, len(f.sent))
		}
		if sent := f.sent[p.Number]; p.At != sent.At || p.Size != sent.Size || p.Ask != sent.Ask {
			t.Fatalf("%+v goes, %+v was sent", p, sent)
		}
		if f.acked[p.Number] || f.lost[p.Number] || f.dropped[p.Number] {
			t.Fatalf("%d goes twice", p.Number)
		}
		went[p.Number] = true
	}
}

// checkEach fails the test, if not just one of these is so of each packet, or Flight isn't the sum of those that are there.
func (f *fates) checkEach(t *testing.T, l *ledger.Ledger) {
	t.Helper()
	there, count, bytes := map[int64]bool{}, 0, 0
	for _, p := range l.List() {
		there[p.Number] = true
		if p.Ask {
			count, bytes = count+1, bytes+p.Size
		}
	}
	for i := range f.sent {
		so := 0
		for _, went := range []map[int64]bool{f.acked, f.lost, f.dropped, there} {
			if went[int64(i)] {
				so++
			}
		}
		if so != 1 {
			t.Fatalf("%d of acked, lost, dropped and there are so of %d", so, i)
		}
	}
	if got := l.Flight(); real(got) != float64(count) || imag(got) != float64(bytes) {
		t.Fatalf("Flight() = %v, want %d, %d", got, count, bytes)
	}
	if len(there) > most || l.Next() != int64(len(f.sent)) {
		t.Fatalf("%d are there, Next() = %d, %d were sent", len(there), l.Next(), len(f.sent))
	}
}

// send sends a packet, and says whether it was; if it wasn't, there was no room, or its size was wrong.
func (f *fates) send(t *testing.T, l *ledger.Ledger, p api.Sent) {
	t.Helper()
	n, e := l.Send(p)
	if e != api.OK {
		if n != 0 || len(l.List()) < most && p.Size >= 0 && p.Size <= greatest {
			t.Fatalf("Send(%+v) = %d, %d", p, n, e)
		}
		return
	}
	if n != int64(len(f.sent)) {
		t.Fatalf("Send() = %d, %d were sent", n, len(f.sent))
	}
	f.sent = append(f.sent, p)
}

// someRanges are ranges about the last numbers, wrong ones, too.
func someRanges(draw *rand.Rand, next int64) []api.Range {
	var r []api.Range
	for range draw.Intn(4) {
		lo := max(0, next-int64(draw.Intn(30)))
		r = append(r, span(uint64(lo), uint64(lo)+uint64(draw.Intn(6))/2))
	}
	return r
}

func TestEachPacketIsAckedLostDroppedOrThere(t *testing.T) {
	draw := rand.New(rand.NewSource(15))
	went := [3]int{}
	for range 150 {
		l, f, now := new(ledger.Ledger), newFates(), uint64(0)
		sends := 3 + draw.Intn(20)
		for range 400 {
			now += uint64(draw.Intn(4))
			switch what := draw.Intn(sends + 3); {
			case what == 0:
				gone, _ := l.Ack(someRanges(draw, l.Next()))
				f.note(t, f.acked, gone)
			case what == 1:
				f.note(t, f.lost, l.Lost(now, uint64(draw.Intn(100))))
			case what == 2 && draw.Intn(10) == 0:
				all := l.List()
				if got := l.Drop(); got != len(all) {
					t.Fatalf("Drop() = %d of %d", got, len(all))
				}
				f.note(t, f.dropped, all)
			default:
				f.send(t, l, api.Sent{Number: draw.Int63(), At: now, Size: draw.Intn(greatest+20) - 10, Ask: draw.Intn(3) > 0})
			}
			f.checkEach(t, l)
		}
		went[0] += len(f.acked)
		went[1] += len(f.lost)
		went[2] += len(f.dropped)
	}
	for i, count := range went {
		if count < 500 {
			t.Errorf("only %d went in the way %d", count, i)
		}
	}
}

func TestWhatIsAckedAndLostAtOnceGoesOnce(t *testing.T) {
	l, f := ledgerOf(t, many(6)...), newFates()
	f.sent = many(6)
	all := func() { // as often as one likes
		for range 2 {
			gone, _ := l.Ack([]api.Range{span(5, 5), span(1, 1)})
			f.note(t, f.acked, gone)
			f.note(t, f.lost, l.Lost(0, never))
			gone, _ = l.Ack(to(0, 3))
			f.note(t, f.acked, gone)
			f.checkEach(t, l)
		}
	}
	all()
	f.note(t, f.dropped, l.List())
	l.Drop()
	all()
	if len(f.acked) != 3 || len(f.lost) != 2 || len(f.dropped) != 1 {
		t.Errorf("%v acked, %v lost, %v dropped", f.acked, f.lost, f.dropped)
	}
}
