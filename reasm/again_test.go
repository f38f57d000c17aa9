package reasm_test

import (
	"math/big"
	"math/rand"
	"reflect"
	"testing"

	"doorward/api"
	"doorward/reasm"
)

// What follows holds the calls against the chapter said once more in another way: all pieces that came are kept for good, and all that is told is reckoned from them each time.

// again is a window, the pieces that came without an error, and how many bytes were read.
type again struct {
	window int
	came   []piece
	were   uint64
}

// at is the byte of a place: the first one that came.
func (a *again) at(place uint64) (byte, bool) {
	for _, p := range a.came {
		if place >= p.off && place-p.off < uint64(len(p.data)) {
			return p.data[place-p.off], true
		}
	}
	return 0, false
}

// top is the greatest end.
func (a *again) top() uint64 {
	top := uint64(0)
	for _, p := range a.came {
		top = max(top, p.off+uint64(len(p.data)))
	}
	return top
}

// size is the end of the first ones that were the last ones.
func (a *again) size() (uint64, bool) {
	for _, p := range a.came {
		if p.last {
			return p.off + uint64(len(p.data)), true
		}
	}
	return 0, false
}

func (a *again) limit() uint64 { return a.were + uint64(a.window) }

// could is what could be read.
func (a *again) could() string {
	text := ""
	for place := a.were; ; place++ {
		x, there := a.at(place)
		if !there {
			return text
		}
		text += string([]byte{x})
	}
}

// held is how many places that weren't read have a byte.
func (a *again) held() int {
	held := 0
	for place := a.were; place < a.limit(); place++ {
		if _, there := a.at(place); there {
			held++
		}
	}
	return held
}

func (a *again) has(lo, hi uint64) bool {
	for place := lo; place < hi; place++ {
		if _, there := a.at(place); !there {
			return false
		}
	}
	return true
}

// wrong is the error of a piece.
func (a *again) wrong(p piece) api.Errno {
	end := new(big.Int).Add(new(big.Int).SetUint64(p.off), big.NewInt(int64(len(p.data))))
	if end.Cmp(new(big.Int).SetUint64(greatest)) > 0 {
		return api.ErrArg
	}
	if end.Uint64() > a.limit() {
		return api.ErrFlow
	}
	size, known := a.size()
	switch {
	case known && end.Uint64() > size, known && p.last && end.Uint64() != size, p.last && end.Uint64() < a.top():
		return api.ErrFinal
	}
	return api.OK
}

func (a *again) put(p piece) api.Errno {
	e := a.wrong(p)
	if e == api.OK {
		a.came = append(a.came, p)
	}
	return e
}

func (a *again) read(n int) string {
	text := a.could()
	text = text[:max(0, min(n, len(text)))]
	a.were += uint64(len(text))
	return text
}

// check fails the test, if a buffer tells another thing of itself.
func (a *again) check(t *testing.T, b *reasm.Buffer) {
	t.Helper()
	size, known := a.size()
	want := told{ready: len(a.could()), held: a.held(), limit: a.limit(), top: a.top(), size: size, known: known, done: known && a.were == size}
	for i := range want.has {
		_, want.has[i] = a.at(uint64(i))
	}
	if got := tell(b); !reflect.DeepEqual(got, want) {
		t.Fatalf("%+v, want %+v, of %+v", got, want, a)
	}
}

// checkHas fails the test, if a buffer has other places.
func (a *again) checkHas(t *testing.T, b *reasm.Buffer, lo, hi uint64) {
	t.Helper()
	if got := b.Has(lo, hi); got != a.has(lo, hi) {
		t.Fatalf("Has(%d, %d) = %v, of %+v", lo, hi, got, a)
	}
}

// do does a step of a script in both, and fails the test, if they answer otherwise: a piece comes, a final size, or some bytes are read.
func (a *again) do(t *testing.T, b *reasm.Buffer, kind int, p piece) {
	t.Helper()
	switch kind {
	case 0:
		if got, want := b.Put(p.off, []byte(p.data), p.last), a.put(p); got != want {
			t.Fatalf("Put(%d, %q, %v) = %d, want %d, of %+v", p.off, p.data, p.last, got, want, a)
		}
	case 1:
		if got, want := b.Final(p.off), a.put(lastAt(p.off, "")); got != want {
			t.Fatalf("Final(%d) = %d, want %d, of %+v", p.off, got, want, a)
		}
	default:
		n := len(p.data) - 1
		if got, want := string(b.Read(n)), a.read(n); got != want {
			t.Fatalf("Read(%d) = %q, want %q, of %+v", n, got, want, a)
		}
	}
}

// Small buffers, in whole: all scripts of four steps, of what little may come, go, or be asked for.
func TestSmallBuffersInWhole(t *testing.T) {
	var steps []func(t *testing.T, a *again, b *reasm.Buffer)
	for off := range uint64(3) {
		for _, data := range []string{"", "a", "bc"} {
			for _, last := range []bool{false, true} {
				steps = append(steps, func(t *testing.T, a *again, b *reasm.Buffer) { a.do(t, b, 0, piece{off, data, last}) })
			}
		}
	}
	for n := range 3 {
		steps = append(steps, func(t *testing.T, a *again, b *reasm.Buffer) { a.do(t, b, 2, bytesAt(0, "xyz"[:n+1])) })
	}
	most := len(steps) * len(steps) * len(steps) * len(steps)
	for window := range 4 {
		for script := range most {
			a, b := &again{window: window}, reasm.New(window)
			for rest := script; rest > 0; rest /= len(steps) {
				steps[rest%len(steps)](t, a, b)
			}
			a.check(t, b)
		}
	}
}

// drawn is a piece near to what was read and to the limit, sometimes near to the greatest end.
func drawn(draw *rand.Rand, a *again) piece {
	p := piece{off: a.were + uint64(draw.Intn(a.window+3)), data: string(written(draw, draw.Intn(8))), last: draw.Intn(12) == 0}
	switch draw.Intn(30) {
	case 0:
		p.off = greatest - uint64(draw.Intn(9)) + 2
	case 1:
		p.off = ^uint64(0) - uint64(draw.Intn(9))
	case 2, 3, 4, 5:
		p.off -= min(p.off, uint64(draw.Intn(12)))
	case 6:
		p.off, p.data = a.top()-min(a.top(), uint64(draw.Intn(2))), ""
	}
	return p
}

func TestDrawnScriptsAreThoseOfPiecesThatAreKept(t *testing.T) {
	draw := rand.New(rand.NewSource(16))
	count := map[api.Errno]int{}
	done := 0
	for range 1500 {
		a := &again{window: draw.Intn(25)}
		b := reasm.New(a.window)
		for range 60 {
			p := drawn(draw, a)
			kind := max(0, draw.Intn(25)-22)
			if draw.Intn(5) == 0 {
				kind = 2
			}
			if kind == 0 {
				count[a.wrong(p)]++
			}
			a.do(t, b, kind, p)
			a.check(t, b)
			lo := a.were - min(a.were, uint64(draw.Intn(5))) + uint64(draw.Intn(9))
			a.checkHas(t, b, lo, lo+uint64(draw.Intn(6)))
			if b.Done() {
				done++
			}
		}
	}
	for _, e := range []api.Errno{api.OK, api.ErrArg, api.ErrFlow, api.ErrFinal} {
		if count[e] < 500 {
			t.Errorf("the error %d was there %d times", e, count[e])
		}
	}
	if done < 500 {
		t.Errorf("all was read %d times", done)
	}
}

func FuzzBuffer(f *testing.F) {
	f.Add(uint16(8), []byte{0, 2, 2, 0, 7, 2, 0, 7, 1, 0, 3, 2, 2, 0, 9, 4, 5, 0, 1, 8, 0})
	f.Add(uint16(4), []byte{0, 2, 2, 0, 0, 2, 2, 0, 3, 3, 4, 0, 2, 0, 9})
	f.Add(uint16(0), []byte{0, 0, 0, 0, 0, 1, 1, 0, 0, 2, 0, 1})
	f.Add(uint16(300), []byte{3, 200, 90, 0, 100, 100, 0, 0, 100, 2, 0, 255, 3, 254, 20, 5, 255, 1, 5, 250, 7})
	f.Fuzz(func(t *testing.T, window uint16, script []byte) {
		a := &again{window: int(window % 400)}
		b := reasm.New(a.window)
		for i := 0; i+2 < min(len(script), 150); i += 3 {
			kind, off, count := script[i], uint64(script[i+1]), int(script[i+2])
			switch {
			case kind&4 != 0:
				off += greatest - 250
			case kind&8 != 0:
				off += a.were
			}
			data := make([]byte, count)
			for j := range data {
				data[j] = byte(i + j)
			}
			a.do(t, b, int(kind&3)%3, piece{off, string(data), kind&16 != 0})
			a.check(t, b)
			a.checkHas(t, b, uint64(script[i+2]), uint64(script[i+1]))
		}
	})
}
