package timers_test

import (
	"math/rand"
	"slices"
	"testing"

	"doorward/api"
	"doorward/timers"
)

// What follows holds the calls against the chapter said once more in another way: timers that stand in no order, and are looked through each time.

// again is such timers.
type again struct{ all []api.Timer }

// place is where one stands; -1, if there is none.
func (a *again) place(conn, kind int) int {
	return slices.IndexFunc(a.all, func(x api.Timer) bool { return x.Conn == conn && x.Kind == kind })
}

func (a *again) cancel(conn, kind int) bool {
	return a.remove(func(x api.Timer) bool { return x.Conn == conn && x.Kind == kind }) == 1
}

func (a *again) drop(conn int) int {
	return a.remove(func(x api.Timer) bool { return x.Conn == conn })
}

// remove takes away all of which that is so: how many.
func (a *again) remove(so func(x api.Timer) bool) int {
	count := len(a.all)
	a.all = slices.DeleteFunc(a.all, so)
	return count - len(a.all)
}

func (a *again) set(x api.Timer) bool {
	others := len(a.all)
	if a.place(x.Conn, x.Kind) >= 0 {
		others--
	}
	if x.At != never && others == most {
		return false
	}
	a.cancel(x.Conn, x.Kind)
	if x.At != never {
		a.all = append(a.all, x)
	}
	return true
}

func (a *again) due(now uint64) (api.Timer, bool) {
	for _, x := range a.all {
		if x.At <= now && !slices.ContainsFunc(a.all, func(y api.Timer) bool { return comesAhead(y, x) }) {
			a.cancel(x.Conn, x.Kind)
			return x, true
		}
	}
	return api.Timer{}, false
}

// list is all in order: each time the one that is due ahead of all others.
func (a *again) list() []api.Timer {
	left, list := again{slices.Clone(a.all)}, []api.Timer(nil)
	for range a.all {
		x, _ := left.due(never)
		list = append(list, x)
	}
	return list
}

// What a step may be.
const (
	toSet = iota
	toCancel
	toDrop
	toDue
	whats // how many there are
)

// step is something that is done to a queue.
type step struct {
	what       int
	time       uint64
	conn, kind int
}

// do does a step to both, and fails the test, if they answer otherwise.
func (s step) do(t *testing.T, q *timers.Queue, a *again) {
	t.Helper()
	same := true
	switch s.what {
	case toSet:
		same = q.Set(at(s.time, s.conn, s.kind)) == a.set(at(s.time, s.conn, s.kind))
	case toCancel:
		same = q.Cancel(s.conn, s.kind) == a.cancel(s.conn, s.kind)
	case toDrop:
		same = q.Drop(s.conn) == a.drop(s.conn)
	case toDue:
		x, ok := q.Due(s.time)
		y, want := a.due(s.time)
		same = x == y && ok == want
	}
	if !same {
		t.Fatalf("%+v isn't answered as it ought to be, behind which there are %v", s, a.list())
	}
	want := never
	if place := a.place(s.conn, s.kind); place >= 0 {
		want = a.all[place].At
	}
	isAt(t, q, s.conn, s.kind, want)
}

func TestDrawnStepsAreThoseOfTimersInNoOrder(t *testing.T) {
	draw := rand.New(rand.NewSource(12))
	for range 150 {
		q, a := timers.New(), &again{}
		conns, kinds, within := 1+draw.Intn(20), 1+draw.Intn(20), 1+draw.Intn(200)
		weights := [whats]int{draw.Intn(60) + 1, draw.Intn(10), draw.Intn(3), draw.Intn(10)}
		for i := range 400 {
			s := step{drawnWhat(draw, weights), uint64(draw.Intn(within)), draw.Intn(conns) - 3, draw.Intn(kinds) - 3}
			if draw.Intn(20) == 0 {
				s.time += never - uint64(within) + 1
			}
			s.do(t, q, a)
			if i%20 == 19 {
				has(t, q, a.list()...)
			}
		}
		dueAll(t, q, never, a.list()...)
	}
}

// drawnWhat is what a step is, by how often each is drawn.
func drawnWhat(draw *rand.Rand, weights [whats]int) int {
	sum := 0
	for _, weight := range weights {
		sum += weight
	}
	n := draw.Intn(sum)
	what := 0
	for n >= weights[what] {
		n -= weights[what]
		what++
	}
	return what
}

func TestDrawnStepsAbout200(t *testing.T) {
	draw := rand.New(rand.NewSource(12))
	q, a := timers.New(), &again{}
	refused := 0
	for i := range 6000 {
		s := step{drawnWhat(draw, [whats]int{30, 3, 0, 3}), uint64(draw.Intn(100)), draw.Intn(20), draw.Intn(20)}
		if i%300 == 0 {
			s.what = toDrop
		}
		if s.what == toSet && a.place(s.conn, s.kind) < 0 && len(a.all) == most {
			refused++
		}
		s.do(t, q, a)
		if i%50 == 0 {
			has(t, q, a.list()...)
		}
	}
	if refused < 100 {
		t.Errorf("only %d were refused", refused)
	}
	dueAll(t, q, never, a.list()...)
}

func FuzzQueue(f *testing.F) {
	f.Add(byte(0), []byte{0, 5, 0x11, 0, 9, 0x11, 3, 5, 0, 3, 9, 0})
	f.Add(byte(200), []byte{0, 1, 0xff, 1, 0, 0x12, 0, 1, 0xff, 0, 1, 0xfe, 3, 7, 0, 2, 0, 0x20})
	f.Add(byte(199), []byte{0, 255, 0x33, 0, 254, 0x33, 3, 255, 0, 0, 0, 0xaa})
	f.Fuzz(func(t *testing.T, first byte, script []byte) {
		q, a := timers.New(), &again{}
		for i := range int(first) {
			step{toSet, uint64(i * 37 % 251), i % 16, i / 16}.do(t, q, a)
		}
		for i := 0; i+2 < min(len(script), 900); i += 3 {
			time := uint64(script[i+1])
			if time > 250 {
				time += never - 255
			}
			step{int(script[i]) % whats, time, int(script[i+2] >> 4), int(script[i+2]&15) - 1}.do(t, q, a)
		}
		has(t, q, a.list()...)
		dueAll(t, q, never, a.list()...)
	})
}
