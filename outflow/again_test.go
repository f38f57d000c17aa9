package outflow_test

import (
	"fmt"
	"math"
	"math/rand"
	"strings"
	"testing"

	"doorward/outflow"
)

// What follows holds the calls against the chapter said once more in another way: all that was done is kept for good, and each byte's state is told from it each time.

// deed is what befell some bytes, and perhaps the end: they went out (o), were acked (a), or lost (l); or it was finished (f).
type deed struct {
	kind byte
	off  uint64
	n    int
	end  bool
}

// again is a limit, what was written, and what was done.
type again struct {
	limit uint64
	text  string
	done  []deed
}

// turned is what becomes of a state (n, o, l or a; - of an end that isn't there).
func turned(state, kind byte) byte {
	switch {
	case kind == 'f':
		return 'n'
	case kind == 'o', kind == 'a' && strings.IndexByte("ol", state) >= 0, kind == 'l' && state == 'o':
		return kind
	}
	return state
}

// states are those of all bytes, and of the end.
func (a *again) states() (string, byte) {
	all, end := []byte(strings.Repeat("n", len(a.text))), byte('-')
	for _, d := range a.done {
		for i := range all {
			if d.n > 0 && uint64(i) >= d.off && uint64(i)-d.off < uint64(d.n) {
				all[i] = turned(all[i], d.kind)
			}
		}
		if d.end {
			end = turned(end, d.kind)
		}
	}
	return string(all), end
}

// goes is what goes out next: the first ones of a kind, the lost ones first.
func (a *again) goes(most int) (piece, bool) {
	all, end := a.states()
	ends := end == 'n' || end == 'l'
	if most < 1 {
		return piece{}, false
	}
	for _, kind := range []string{"l", "n"} {
		of := all
		if kind == "n" {
			of = all[:min(a.limit, uint64(len(all)))]
		}
		from := strings.Index(of, kind)
		if from < 0 {
			continue
		}
		n := min(most, len(of[from:])-len(strings.TrimLeft(of[from:], kind)))
		return piece{uint64(from), a.text[from : from+n], ends && from+n == len(all)}, true
	}
	if ends && !strings.Contains(all, "n") {
		return endAt(uint64(len(all)), ""), true
	}
	return piece{}, false
}

func (a *again) had(off uint64, n int) bool {
	all, _ := a.states()
	count := uint64(len(all))
	return n >= 0 && off <= count && uint64(n) <= count-off && strings.Trim(all[off:off+uint64(n)], "a") == ""
}

// tell is all that is told.
func (a *again) tell() told {
	all, end := a.states()
	_, some := a.goes(1)
	x := told{written: len(all), sent: uint64(len(strings.TrimRight(all, "n"))), some: some, done: end == 'a' && strings.Trim(all, "a") == ""}
	x.blocked = strings.Contains(all, "n") && !strings.Contains(all[:min(a.limit, uint64(len(all)))], "n") && !strings.Contains(all, "l")
	for _, state := range all[:min(24, len(all))] {
		x.had += map[bool]string{false: "-", true: "a"}[state == 'a']
	}
	return x
}

// both are a buffer, and what it is held against.
type both struct {
	a again
	b *outflow.Buffer
}

func bothOf(limit uint64) *both { return &both{a: again{limit: limit}, b: outflow.New(limit)} }

func (x *both) write(t *testing.T, text string) {
	t.Helper()
	_, end := x.a.states()
	want := min(len(text), full-len(x.a.text))
	if end != '-' {
		want = 0
	}
	x.a.text += text[:want]
	write(t, x.b, text, want)
	x.check(t)
}

func (x *both) finish(t *testing.T) {
	t.Helper()
	_, end := x.a.states()
	finish(t, x.b, end == '-')
	if end == '-' {
		x.a.done = append(x.a.done, deed{kind: 'f', end: true})
	}
	x.check(t)
}

func (x *both) raise(t *testing.T, limit uint64) {
	t.Helper()
	raise(t, x.b, limit, limit > x.a.limit)
	x.a.limit = max(x.a.limit, limit)
	x.check(t)
}

func (x *both) next(t *testing.T, most int) bool {
	t.Helper()
	p, some := x.a.goes(most)
	if !some {
		none(t, x.b, most)
		return false
	}
	next(t, x.b, most, p)
	x.a.done = append(x.a.done, deed{'o', p.off, len(p.data), p.end})
	x.check(t)
	return true
}

func (x *both) became(t *testing.T, d deed) {
	t.Helper()
	x.a.done = append(x.a.done, d)
	if d.kind == 'a' {
		x.b.Acked(d.off, d.n, d.end)
	} else {
		x.b.Lost(d.off, d.n, d.end)
	}
	x.check(t)
}

// check fails the test, if the buffer tells another thing of itself.
func (x *both) check(t *testing.T) {
	t.Helper()
	if got, want := tell(x.b), x.a.tell(); got != want {
		t.Fatalf("%+v, want %+v, of %+v", got, want, x.a)
	}
}

func (x *both) checkHad(t *testing.T, off uint64, n int) {
	t.Helper()
	if got := x.b.Had(off, n); got != x.a.had(off, n) {
		t.Fatalf("Had(%d, %d) = %v, of %+v", off, n, got, x.a)
	}
}

// drain has all go out, byte by byte.
func (x *both) drain(t *testing.T) {
	t.Helper()
	for x.next(t, 1) {
	}
}

// inStates is a buffer whose bytes and end are of these states, done step by step.
func inStates(t *testing.T, all string, end byte, limit uint64) *both {
	t.Helper()
	x := bothOf(limit)
	x.write(t, "abcdef"[:len(all)])
	if strings.IndexByte("ola", end) >= 0 {
		x.finish(t)
	}
	x.next(t, len(strings.TrimRight(all, "n")))
	if len(all) == 0 {
		x.next(t, 1)
	}
	if end == 'n' {
		x.finish(t)
	}
	for i, state := range []byte(all + string([]byte{end})) {
		if state == 'a' || state == 'l' {
			x.became(t, deed{state, uint64(i), 1, i == len(all)})
		}
	}
	if got, ending := x.a.states(); got != all || ending != end {
		t.Fatalf("%s%c, want %s%c", got, ending, all, end)
	}
	return x
}

// allStates are those that so many bytes may be in: new ones stand behind all others.
func allStates(count int) []string {
	all := []string{""}
	for range count {
		var more []string
		for _, states := range all {
			for _, state := range "olan" {
				if state == 'n' || !strings.Contains(states, "n") {
					more = append(more, states+string(state))
				}
			}
		}
		all = more
	}
	return all
}

// allSteps are those that there may be, about so many bytes.
func allSteps(count int) []func(t *testing.T, x *both) {
	var steps []func(t *testing.T, x *both)
	add := func(step func(t *testing.T, x *both)) { steps = append(steps, step) }
	add(func(t *testing.T, x *both) { x.write(t, "") })
	add(func(t *testing.T, x *both) { x.write(t, "xy") })
	add(func(t *testing.T, x *both) { x.finish(t) })
	for n := range count + 3 {
		add(func(t *testing.T, x *both) { x.raise(t, uint64(n)) })
		add(func(t *testing.T, x *both) { x.next(t, n) })
	}
	for _, kind := range []byte("al") {
		for off := range count + 2 {
			for n := -1; n < count+3-off; n++ {
				add(func(t *testing.T, x *both) { x.became(t, deed{kind, uint64(off), n, false}) })
				add(func(t *testing.T, x *both) { x.became(t, deed{kind, uint64(off), n, true}) })
			}
		}
	}
	return steps
}

// Small buffers, in whole: of all states that up to three bytes and the end may be in, with all limits, each step; and then all that is lost, acked, or goes out, so that each state shows.
func TestSmallBuffersInWhole(t *testing.T) {
	for count := range 4 {
		steps := allSteps(count)
		for _, all := range allStates(count) {
			ends := "-n"
			if !strings.Contains(all, "n") {
				ends = "-nola"
			}
			for limit := len(strings.TrimRight(all, "n")); limit < count+2; limit++ {
				for _, end := range []byte(ends) {
					for _, step := range steps {
						showAll(t, func() *both {
							x := inStates(t, all, end, uint64(limit))
							step(t, x)
							return x
						})
					}
				}
			}
		}
	}
}

// showAll fails the test, if a buffer answers otherwise later on, whether what went out is lost or acked ahead of what goes out next, or behind it.
func showAll(t *testing.T, of func() *both) {
	t.Helper()
	for _, kind := range []byte("al") {
		x := of()
		x.became(t, deed{kind, 0, 9, true})
		x.drain(t)
		x = of()
		x.drain(t)
		x.became(t, deed{kind, 0, 9, true})
		x.drain(t)
	}
}

// drawnDeed is of bytes near to those there are, or to what went out, sometimes near to the greatest integers.
func drawnDeed(draw *rand.Rand, count int, sent []piece) deed {
	d := deed{kind: "al"[draw.Intn(2)], off: uint64(draw.Intn(count + 3)), n: draw.Intn(9) - 1, end: draw.Intn(4) == 0}
	if len(sent) > 0 && draw.Intn(2) == 0 {
		p := sent[draw.Intn(len(sent))]
		d.off, d.n, d.end = p.off, len(p.data), p.end
	}
	switch draw.Intn(40) {
	case 0:
		d.off = greatest - uint64(draw.Intn(9)) + 2
	case 1:
		d.off = math.MaxUint64 - uint64(draw.Intn(9))
	case 2:
		d.n = math.MaxInt - draw.Intn(3)
	case 3:
		d.n = math.MinInt + draw.Intn(3)
	}
	return d
}

// step does something drawn, and is the piece that went out, if one did.
func (x *both) step(t *testing.T, draw *rand.Rand, sent []piece) []piece {
	t.Helper()
	switch kind := draw.Intn(20); {
	case kind < 3:
		x.write(t, "abcdefghijklmnop"[draw.Intn(12):][:draw.Intn(5)])
	case kind == 3 && draw.Intn(3) == 0:
		x.finish(t)
	case kind < 6:
		x.raise(t, x.a.limit+uint64(draw.Intn(7))-min(x.a.limit, 2))
	case kind < 12:
		most := draw.Intn(8) - 1
		if p, some := x.a.goes(most); some {
			sent = append(sent, p)
		}
		x.next(t, most)
	default:
		x.became(t, drawnDeed(draw, len(x.a.text), sent))
	}
	x.checkHad(t, uint64(draw.Intn(len(x.a.text)+2)), draw.Intn(7)-1)
	return sent
}

func TestDrawnScriptsAreThoseOfDeedsThatAreKept(t *testing.T) {
	draw := rand.New(rand.NewSource(17))
	count := map[string]int{}
	for range 1500 {
		x := bothOf(uint64(draw.Intn(12)))
		var sent []piece
		for range 70 {
			sent = x.step(t, draw, sent)
			got := tell(x.b)
			got.written, got.sent, got.had = 0, 0, ""
			count[fmt.Sprintf("%+v", got)]++
		}
	}
	for _, want := range []told{{}, {some: true}, {blocked: true}, {done: true}} {
		if count[fmt.Sprintf("%+v", want)] < 500 {
			t.Errorf("%+v was so %d times", want, count[fmt.Sprintf("%+v", want)])
		}
	}
}

func FuzzBuffer(f *testing.F) {
	f.Add(uint64(4), []byte{0, 8, 0, 3, 3, 0, 5, 1, 1, 5, 3, 5, 3, 5, 0, 2, 0, 0, 1, 9, 0, 3, 3, 0, 4, 0, 7, 3, 5, 0})
	f.Add(uint64(0), []byte{2, 0, 0, 3, 1, 0, 13, 0, 0, 3, 1, 0, 12, 0, 0})
	f.Add(uint64(2), []byte{0, 250, 0, 0, 250, 0, 3, 9, 0, 21, 1, 1, 1, 255, 255, 3, 200, 0, 20, 3, 255, 37, 250, 7})
	f.Add(uint64(math.MaxUint64), []byte{0, 200, 0, 0, 250, 0, 0, 250, 0, 2, 0, 0, 0, 250, 0, 3, 250, 9})
	f.Fuzz(func(t *testing.T, limit uint64, script []byte) {
		x := bothOf(limit)
		for i := 0; i+2 < min(len(script), 120); i += 3 {
			kind, off, n := script[i], uint64(script[i+1]), int(script[i+2])-2
			switch {
			case kind&16 != 0:
				off += greatest - 250
			case kind&32 != 0:
				off, n = math.MaxUint64-off, math.MaxInt-n-2
			}
			switch kind % 6 {
			case 0:
				x.write(t, strings.Repeat(string([]byte{'a' + kind%26, '-'}), int(script[i+1])))
			case 1:
				x.raise(t, off<<(n&3))
			case 2:
				x.finish(t)
			case 3:
				x.next(t, int(script[i+1])-2)
			default:
				x.became(t, deed{"al"[kind%2], off, n, kind&8 != 0})
			}
			x.checkHad(t, uint64(script[i+1]), n)
		}
	})
}
