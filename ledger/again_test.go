package ledger_test

import (
	"math/big"
	"math/rand"
	"reflect"
	"slices"
	"testing"

	"doorward/api"
	"doorward/ledger"
)

// What follows holds the calls against the chapter said once more in another way: all packets are kept for good, each with what became of it, and all that is told is reckoned of them each time, times by the library's great numbers.

// What became of a packet.
const (
	isThere = iota
	isAcked
	isLost
	isDropped
)

type packet struct {
	api.Sent
	is int
}

// again is all packets that were ever sent.
type again struct{ all []packet }

// thoseOf are the numbers of those of which that is so.
func (a *again) thoseOf(so func(p packet) bool) []int64 {
	var list []int64
	for _, p := range a.all {
		if so(p) {
			list = append(list, p.Number)
		}
	}
	return list
}

func (a *again) there() []int64 { return a.thoseOf(func(p packet) bool { return p.is == isThere }) }

func (a *again) acked() int64 {
	return slices.Max(append(a.thoseOf(func(p packet) bool { return p.is == isAcked }), -1))
}

// turn lets packets go, and tells them.
func (a *again) turn(list []int64, is int) []api.Sent {
	var gone []api.Sent
	for _, n := range list {
		a.all[n].is = is
		gone = append(gone, a.all[n].Sent)
	}
	return gone
}

// by is a packet's time and a delay, as a great number that is no more than Never.
func by(p packet, delay uint64) *big.Int {
	sum := new(big.Int).Add(new(big.Int).SetUint64(p.At), new(big.Int).SetUint64(delay))
	if bound := new(big.Int).SetUint64(never); sum.Cmp(bound) > 0 {
		return bound
	}
	return sum
}

func (a *again) send(p api.Sent) (int64, api.Errno) {
	switch {
	case p.Size < 0 || p.Size > greatest:
		return 0, api.ErrArg
	case len(a.there()) == most:
		return 0, api.ErrFull
	}
	p.Number = int64(len(a.all))
	a.all = append(a.all, packet{Sent: p})
	return p.Number, api.OK
}

// ack goes through each range's numbers that were sent, and looks whether there are others.
func (a *again) ack(r []api.Range) ([]api.Sent, api.Errno) {
	named := map[int64]bool{}
	for _, x := range r {
		if x.Lo > x.Hi {
			continue
		}
		for n := range a.all {
			if x.Lo <= uint64(n) && uint64(n) <= x.Hi {
				named[int64(n)] = true
			}
		}
		if x.Hi >= uint64(len(a.all)) {
			return nil, api.ErrForm
		}
	}
	return a.turn(a.thoseOf(func(p packet) bool { return p.is == isThere && named[p.Number] }), isAcked), api.OK
}

func (a *again) lost(now, delay uint64) []api.Sent {
	acked := a.acked()
	less := a.thoseOf(func(p packet) bool { return p.is == isThere && p.Number <= acked-3 })
	late := a.thoseOf(func(p packet) bool {
		return p.is == isThere && p.Number < acked && by(p, delay).Cmp(new(big.Int).SetUint64(now)) <= 0
	})
	both := append(less, late...)
	slices.Sort(both)
	return a.turn(slices.Compact(both), isLost)
}

func (a *again) due(delay uint64) uint64 {
	least, acked := new(big.Int).SetUint64(never), a.acked()
	for _, p := range a.all {
		if sum := by(p, delay); p.is == isThere && p.Number < acked && sum.Cmp(least) < 0 {
			least = sum
		}
	}
	return least.Uint64()
}

func (a *again) tell() told {
	want := told{next: int64(len(a.all)), acked: a.acked(), due: a.due(7)}
	count, bytes := 0, 0
	for _, n := range a.there() {
		p := a.all[n]
		want.list = append(want.list, p.Sent)
		if p.Ask {
			count, bytes = count+1, bytes+p.Size
			want.last, want.any = p.At, true
		}
	}
	want.flight = complex(float64(count), float64(bytes))
	return want
}

// check fails the test, if a ledger tells another thing.
func (a *again) check(t *testing.T, l *ledger.Ledger, delay uint64) {
	t.Helper()
	if got, want := tell(l), a.tell(); !reflect.DeepEqual(got, want) {
		t.Fatalf("%+v, want %+v", got, want)
	}
	if got, want := l.Due(delay), a.due(delay); got != want {
		t.Fatalf("Due(%d) = %d, want %d", delay, got, want)
	}
}

// same fails the test, if packets that went aren't those.
func same(t *testing.T, what string, got, want []api.Sent) {
	t.Helper()
	if !slices.EqualFunc(got, want, func(p, q api.Sent) bool { return reflect.DeepEqual(p, q) }) {
		t.Fatalf("%s = %+v, want %+v", what, got, want)
	}
}

// do does a step in both, drawn, at a time, and fails the test, if they answer otherwise.
func (a *again) do(t *testing.T, l *ledger.Ledger, draw *rand.Rand, now uint64) {
	t.Helper()
	delay := draw.Uint64() >> draw.Intn(64)
	switch draw.Intn(16) {
	case 0, 1:
		a.doAck(t, l, drawnRanges(draw, uint64(len(a.all))))
	case 2:
		same(t, "Lost", l.Lost(now, delay), a.lost(now, delay))
	case 3:
		if draw.Intn(12) > 0 {
			break
		}
		if got, want := l.Drop(), len(a.turn(a.there(), isDropped)); got != want {
			t.Fatalf("Drop() = %d, want %d", got, want)
		}
	case 4:
		a.doSend(t, l, api.Sent{At: draw.Uint64() >> draw.Intn(64), Size: []int{-1, 0, 1, greatest, greatest + 1}[draw.Intn(5)], Ask: true})
	default:
		a.doSend(t, l, drawnPacket(draw, now))
	}
	a.check(t, l, delay)
}

func (a *again) doAck(t *testing.T, l *ledger.Ledger, r []api.Range) {
	t.Helper()
	got, e := l.Ack(r)
	want, wantE := a.ack(r)
	if e != wantE {
		t.Fatalf("Ack(%v) has the error %d, want %d, of %d packets", r, e, wantE, len(a.all))
	}
	same(t, "Ack", got, want)
}

func (a *again) doSend(t *testing.T, l *ledger.Ledger, p api.Sent) {
	t.Helper()
	n, e := l.Send(p)
	if want, wantE := a.send(p); n != want || e != wantE {
		t.Fatalf("Send(%+v) = %d, %d, want %d, %d", p, n, e, want, wantE)
	}
}

// drawnRanges are of numbers near the next one for the most part, and of any at times.
func drawnRanges(draw *rand.Rand, next uint64) []api.Range {
	var r []api.Range
	for range draw.Intn(5) {
		x := span(next-1-uint64(draw.Intn(20)), next-1-uint64(draw.Intn(20)))
		switch draw.Intn(12) {
		case 0:
			x.Hi = draw.Uint64() >> draw.Intn(64)
		case 1:
			x.Lo = draw.Uint64() >> draw.Intn(64)
		case 2:
			x.Hi = next
		}
		r = append(r, x)
	}
	return r
}

func drawnPacket(draw *rand.Rand, now uint64) api.Sent {
	p := api.Sent{Number: draw.Int63() - draw.Int63(), At: now, Size: draw.Intn(greatest + 1), Ask: draw.Intn(3) > 0}
	for range draw.Intn(3) {
		p.Frames = append(p.Frames, api.Frame{Kind: draw.Intn(31), Id: draw.Uint64(), Data: []byte("data")[:1+draw.Intn(4)], Ranges: []api.Range{span(1, 2)}})
	}
	return p
}

func TestDrawnStepsAreThoseOfPacketsThatAreKeptForGood(t *testing.T) {
	draw := rand.New(rand.NewSource(15))
	became := map[int]int{}
	for range 120 {
		l, a, now := new(ledger.Ledger), &again{}, uint64(0)
		if draw.Intn(4) == 0 {
			now = never - 300
		}
		for range 150 {
			now += uint64(draw.Intn(3))
			a.do(t, l, draw, now)
		}
		for _, p := range a.all {
			became[p.is]++
		}
	}
	for _, is := range []int{isThere, isAcked, isLost, isDropped} {
		if became[is] < 500 {
			t.Errorf("only %d packets are %d", became[is], is)
		}
	}
}

func TestSmallLedgersAreThoseOfPacketsThatAreKeptForGood(t *testing.T) {
	const sent = 5
	for acked := range uint64(1 << sent) { // whichever of them are acked, and at whatever of some times
		for now := range uint64(8) {
			l, a := new(ledger.Ledger), &again{}
			for i := range uint64(sent) {
				a.doSend(t, l, api.Sent{At: i * 3 % 5, Size: int(1 << i), Ask: i != 2})
			}
			for i := range uint64(sent) {
				if acked>>i&1 == 1 {
					a.doAck(t, l, one(i))
				}
			}
			a.check(t, l, now)
			same(t, "Lost", l.Lost(now, 2), a.lost(now, 2))
			a.check(t, l, now)
		}
	}
}

func FuzzLedger(f *testing.F) {
	f.Add(int64(15), uint64(0), []byte{1, 2, 3, 4, 5, 6, 7, 8})
	f.Add(int64(7), never-20, []byte{0, 9, 0, 9, 0, 9, 0, 9, 0, 9, 0, 9})
	f.Add(int64(0), uint64(1000), slices.Repeat([]byte{1}, 200))
	f.Fuzz(func(t *testing.T, seed int64, now uint64, script []byte) {
		l, a, draw := new(ledger.Ledger), &again{}, rand.New(rand.NewSource(seed))
		for _, b := range script[:min(len(script), 250)] {
			now += uint64(b)
			a.do(t, l, draw, now)
		}
	})
}
