package header_test

import (
	"bytes"
	"math"
	"reflect"
	"testing"

	"doorward/api"
	"doorward/header"
)

// text is so many bytes from a first one on, each one more than the one ahead.
func text(first byte, n int) []byte {
	b := make([]byte, n)
	for i := range b {
		b[i] = first + byte(i)
	}
	return b
}

// join is bytes, single ones and texts, one behind the other.
func join(parts ...any) []byte {
	var b []byte
	for _, p := range parts {
		switch p := p.(type) {
		case int:
			b = append(b, byte(p))
		case string:
			b = append(b, p...)
		case []byte:
			b = append(b, p...)
		}
	}
	return b
}

// short is a short header that is right; long one of a kind.
func short() api.Header { return api.Header{Dst: text(1, 8), Cut: []byte{9}} }

func long(kind int) api.Header {
	return api.Header{Long: true, Kind: kind, Version: 1, Dst: text(1, 8), Src: text(11, 8), Cut: []byte{9}}
}

// but is a header with something done to it.
func but(h api.Header, change func(h *api.Header)) api.Header {
	change(&h)
	return h
}

// examples are right headers, and their bytes, written by hand.
var examples = []struct {
	what string
	h    api.Header
	b    []byte
}{
	{"the document's", api.Header{Dst: bytes.Repeat([]byte{7}, 8), Cut: []byte{9}}, []byte{0x40, 7, 7, 7, 7, 7, 7, 7, 7, 9}},
	{"short, Cut of 2", api.Header{Dst: text(1, 8), Cut: []byte{0, 0}}, []byte{0x41, 1, 2, 3, 4, 5, 6, 7, 8, 0, 0}},
	{"short, Cut of 3", api.Header{Dst: text(1, 8), Cut: []byte{9, 8, 7}}, []byte{0x42, 1, 2, 3, 4, 5, 6, 7, 8, 9, 8, 7}},
	{"short, Cut of 4", api.Header{Dst: text(1, 8), Cut: []byte{9, 8, 7, 6}}, []byte{0x43, 1, 2, 3, 4, 5, 6, 7, 8, 9, 8, 7, 6}},
	{"short, of the other phase", api.Header{Phase: true, Dst: text(1, 8), Cut: []byte{9}}, []byte{0x44, 1, 2, 3, 4, 5, 6, 7, 8, 9}},
	{"short, of the other phase, Cut of 4", api.Header{Phase: true, Dst: text(1, 8), Cut: text(9, 4), Rest: 1}, []byte{0x47, 1, 2, 3, 4, 5, 6, 7, 8, 9, 10, 11, 12}},
	{"short, Rest of 1200", api.Header{Dst: text(1, 8), Cut: []byte{9}, Rest: 1200}, []byte{0x40, 1, 2, 3, 4, 5, 6, 7, 8, 9}},
	{"Initial, with nothing", api.Header{Long: true, Cut: []byte{9}}, []byte{0xc0, 0, 0, 0, 0, 0, 0, 0, 1, 9}},
	{"Initial", api.Header{Long: true, Version: 0x01020304, Dst: []byte{5}, Src: []byte{6, 7}, Token: []byte{8, 9, 10}, Cut: []byte{11, 12}, Rest: 3}, []byte{0xc1, 1, 2, 3, 4, 1, 5, 2, 6, 7, 3, 8, 9, 10, 5, 11, 12}},
	{"Initial, Cut of 3", api.Header{Long: true, Version: math.MaxUint32, Dst: text(1, 8), Cut: []byte{9, 8, 7}}, join(0xc2, 0xff, 0xff, 0xff, 0xff, 8, text(1, 8), 0, 0, 3, 9, 8, 7)},
	{"Initial, Cut of 4", api.Header{Long: true, Version: 1 << 24, Src: text(1, 8), Cut: []byte{0, 0, 0, 0}}, join(0xc3, 1, 0, 0, 0, 0, 8, text(1, 8), 0, 4, 0, 0, 0, 0)},
	{"Initial, Token of 63", api.Header{Long: true, Token: text(1, 63), Cut: []byte{9}}, join(0xc0, 0, 0, 0, 0, 0, 0, 63, text(1, 63), 1, 9)},
	{"Initial, Token of 64", api.Header{Long: true, Token: text(1, 64), Cut: []byte{9}}, join(0xc0, 0, 0, 0, 0, 0, 0, 0x40, 0x40, text(1, 64), 1, 9)},
	{"Initial, with all there may be", api.Header{Long: true, Version: 0x80000000, Dst: text(1, 20), Src: text(50, 20), Token: text(99, 200), Cut: text(3, 4), Rest: 1200}, join(0xc3, 0x80, 0, 0, 0, 20, text(1, 20), 20, text(50, 20), 0x40, 200, text(99, 200), 0x44, 0xb4, text(3, 4))},
	{"Initial, Rest of 62", api.Header{Long: true, Cut: []byte{9}, Rest: 62}, []byte{0xc0, 0, 0, 0, 0, 0, 0, 0, 63, 9}},
	{"Initial, Rest of 63", api.Header{Long: true, Cut: []byte{9}, Rest: 63}, []byte{0xc0, 0, 0, 0, 0, 0, 0, 0, 0x40, 64, 9}},
	{"Handshake, with nothing", api.Header{Long: true, Kind: api.Handshake, Cut: []byte{9}}, []byte{0xe0, 0, 0, 0, 0, 0, 0, 1, 9}},
	{"Handshake", api.Header{Long: true, Kind: api.Handshake, Version: 1, Dst: text(1, 20), Src: text(50, 20), Cut: text(3, 2), Rest: 1}, join(0xe1, 0, 0, 0, 1, 20, text(1, 20), 20, text(50, 20), 3, 3, 4)},
	{"Handshake, Cut of 3", api.Header{Long: true, Kind: api.Handshake, Version: 0x00010000, Dst: []byte{5}, Cut: text(3, 3), Rest: 1}, []byte{0xe2, 0, 1, 0, 0, 1, 5, 0, 4, 3, 4, 5}},
	{"Handshake, Cut of 4, Rest of 1200", api.Header{Long: true, Kind: api.Handshake, Version: 0x100, Src: []byte{5}, Cut: text(3, 4), Rest: 1200}, []byte{0xe3, 0, 0, 1, 0, 0, 1, 5, 0x44, 0xb4, 3, 4, 5, 6}},
}

// P4.1

func TestRightAndPutOfExamples(t *testing.T) {
	for _, x := range examples {
		if !header.Right(x.h) {
			t.Errorf("%s: %+v isn't right", x.what, x.h)
		}
		if got := header.Put(x.h); !bytes.Equal(got, x.b) {
			t.Errorf("%s: Put(%+v) = %x, want %x", x.what, x.h, got, x.b)
		}
	}
}

// wrong are headers that aren't right, each by one thing alone.
var wrong = []struct {
	what string
	h    api.Header
}{
	{"a zero one", api.Header{}},
	{"short, no Cut", but(short(), func(h *api.Header) { h.Cut = nil })},
	{"short, an empty Cut", but(short(), func(h *api.Header) { h.Cut = []byte{} })},
	{"short, Cut of 5", but(short(), func(h *api.Header) { h.Cut = text(1, 5) })},
	{"short, Cut of 257", but(short(), func(h *api.Header) { h.Cut = text(1, 257) })},
	{"short, no Dst", but(short(), func(h *api.Header) { h.Dst = nil })},
	{"short, Dst of 7", but(short(), func(h *api.Header) { h.Dst = text(1, 7) })},
	{"short, Dst of 9", but(short(), func(h *api.Header) { h.Dst = text(1, 9) })},
	{"short, Dst of 20", but(short(), func(h *api.Header) { h.Dst = text(1, 20) })},
	{"short, Dst of 21", but(short(), func(h *api.Header) { h.Dst = text(1, 21) })},
	{"short, with a Src", but(short(), func(h *api.Header) { h.Src = []byte{0} })},
	{"short, with a Src of 8", but(short(), func(h *api.Header) { h.Src = text(1, 8) })},
	{"short, with a Token", but(short(), func(h *api.Header) { h.Token = []byte{0} })},
	{"short, with a version", but(short(), func(h *api.Header) { h.Version = 1 })},
	{"short, with the highest version", but(short(), func(h *api.Header) { h.Version = math.MaxUint32 })},
	{"short, of a kind", but(short(), func(h *api.Header) { h.Kind = api.Handshake })},
	{"short, of Early", but(short(), func(h *api.Header) { h.Kind = api.Early })},
	{"short, of a kind below all", but(short(), func(h *api.Header) { h.Kind = -1 })},
	{"short, Rest of -1", but(short(), func(h *api.Header) { h.Rest = -1 })},
	{"short, Rest of 1201", but(short(), func(h *api.Header) { h.Rest = 1201 })},
	{"short, the least Rest", but(short(), func(h *api.Header) { h.Rest = math.MinInt })},
	{"short, the greatest Rest", but(short(), func(h *api.Header) { h.Rest = math.MaxInt })},
	{"Early", long(api.Early)},
	{"Retry", long(api.Retry)},
	{"Initial, Token of 201", but(long(api.Initial), func(h *api.Header) { h.Token = text(1, 201) })},
	{"Initial, Token of 256", but(long(api.Initial), func(h *api.Header) { h.Token = text(1, 256) })},
	{"Handshake, with a Token", but(long(api.Handshake), func(h *api.Header) { h.Token = []byte{0} })},
	{"Handshake, with a Token of 200", but(long(api.Handshake), func(h *api.Header) { h.Token = text(1, 200) })},
	{"long, but for that it isn't told", but(long(api.Initial), func(h *api.Header) { h.Long = false })},
	{"short, but for that it is told as long, and has a phase", api.Header{Long: true, Phase: true, Dst: text(1, 8), Cut: []byte{9}}},
}

func TestWhatIsNotRightHasNoBytes(t *testing.T) {
	isWrong := func(what string, h api.Header) {
		t.Helper()
		if header.Right(h) {
			t.Errorf("%s: %+v is right", what, h)
		}
		if got := header.Put(h); len(got) != 0 {
			t.Errorf("%s: Put(%+v) = %x, want none", what, h, got)
		}
	}
	for _, x := range wrong {
		isWrong(x.what, x.h)
	}
	for _, kind := range []int{api.Initial, api.Handshake} {
		for what, change := range map[string]func(h *api.Header){
			"no Cut":            func(h *api.Header) { h.Cut = nil },
			"an empty Cut":      func(h *api.Header) { h.Cut = []byte{} },
			"Cut of 5":          func(h *api.Header) { h.Cut = text(1, 5) },
			"Cut of 257":        func(h *api.Header) { h.Cut = text(1, 257) },
			"Dst of 21":         func(h *api.Header) { h.Dst = text(1, 21) },
			"Dst of 256":        func(h *api.Header) { h.Dst = text(1, 256) },
			"Src of 21":         func(h *api.Header) { h.Src = text(1, 21) },
			"Src of 264":        func(h *api.Header) { h.Src = text(1, 264) },
			"a phase":           func(h *api.Header) { h.Phase = true },
			"Rest of -1":        func(h *api.Header) { h.Rest = -1 },
			"Rest of 1201":      func(h *api.Header) { h.Rest = 1201 },
			"the least Rest":    func(h *api.Header) { h.Rest = math.MinInt },
			"the greatest Rest": func(h *api.Header) { h.Rest = math.MaxInt },
		} {
			isWrong(what, but(long(kind), change))
		}
	}
	for _, kind := range []int{math.MinInt, -256, -2, -1, 1, 3, 4, 6, 8, 16, 32, 0x100, 0x102, math.MaxInt - 1, math.MaxInt} {
		isWrong("a kind that is none", long(kind))
	}
}

func TestEdgesThatAreRight(t *testing.T) {
	isRight := func(what string, h api.Header) {
		t.Helper()
		if !header.Right(h) || len(header.Put(h)) == 0 {
			t.Errorf("%s: %+v isn't right", what, h)
		}
	}
	for _, h := range []api.Header{short(), long(api.Initial), long(api.Handshake)} {
		for n := 1; n <= 4; n++ {
			isRight("Cut", but(h, func(h *api.Header) { h.Cut = text(9, n) }))
		}
		for _, n := range []int{0, 1, 1199, 1200} {
			isRight("Rest", but(h, func(h *api.Header) { h.Rest = n }))
		}
	}
	for _, h := range []api.Header{long(api.Initial), long(api.Handshake)} {
		for n := 0; n <= 20; n++ {
			isRight("Dst", but(h, func(h *api.Header) { h.Dst = text(9, n) }))
			isRight("Src", but(h, func(h *api.Header) { h.Src = text(9, n) }))
		}
		for _, v := range []uint32{0, 1, math.MaxUint32} {
			isRight("Version", but(h, func(h *api.Header) { h.Version = v }))
		}
		isRight("an empty Token", but(h, func(h *api.Header) { h.Token = []byte{} }))
	}
	for _, n := range []int{0, 1, 63, 64, 199, 200} {
		isRight("Token", but(long(api.Initial), func(h *api.Header) { h.Token = text(9, n) }))
	}
	isRight("a phase", but(short(), func(h *api.Header) { h.Phase = true }))
	isRight("empty ones", but(short(), func(h *api.Header) { h.Src, h.Token = []byte{}, []byte{} }))
}

func TestSame(t *testing.T) {
	for i, x := range examples {
		for j, y := range examples {
			if got := header.Same(x.h, y.h); got != (i == j) {
				t.Errorf("Same of %s, and %s: %t", x.what, y.what, got)
			}
		}
	}
	for _, h := range []api.Header{{}, short(), long(api.Initial), long(api.Handshake), long(api.Retry), {Rest: -1, Token: text(1, 300)}} {
		if !header.Same(h, h) {
			t.Errorf("%+v isn't the same as itself", h)
		}
		for what, change := range map[string]func(h *api.Header){
			"Long":          func(h *api.Header) { h.Long = !h.Long },
			"Phase":         func(h *api.Header) { h.Phase = !h.Phase },
			"Kind":          func(h *api.Header) { h.Kind++ },
			"Version":       func(h *api.Header) { h.Version += 1 << 31 },
			"Rest":          func(h *api.Header) { h.Rest += 1 << 16 },
			"Dst":           func(h *api.Header) { h.Dst = join(h.Dst, 0) },
			"Src":           func(h *api.Header) { h.Src = join(h.Src, 0) },
			"Token":         func(h *api.Header) { h.Token = join(h.Token, 0) },
			"Cut":           func(h *api.Header) { h.Cut = join(h.Cut, 0) },
			"Dst, in front": func(h *api.Header) { h.Dst = join(0, h.Dst) },
		} {
			other := but(h, change)
			if header.Same(h, other) || header.Same(other, h) {
				t.Errorf("%s: %+v is the same as %+v", what, h, other)
			}
		}
	}
	for _, b := range [][]byte{{0}, {1}, text(1, 8)} {
		flipped := bytes.Clone(b)
		flipped[len(b)-1] ^= 1
		for what, of := range map[string]func(b []byte) api.Header{
			"Dst":   func(b []byte) api.Header { return api.Header{Dst: b} },
			"Src":   func(b []byte) api.Header { return api.Header{Src: b} },
			"Token": func(b []byte) api.Header { return api.Header{Token: b} },
			"Cut":   func(b []byte) api.Header { return api.Header{Cut: b} },
		} {
			if header.Same(of(b), of(flipped)) {
				t.Errorf("%s: %x is the same as %x", what, b, flipped)
			}
			if !header.Same(of(b), of(bytes.Clone(b))) {
				t.Errorf("%s: %x isn't the same as its copy", what, b)
			}
		}
	}
	empty := []byte{}
	if !header.Same(api.Header{}, api.Header{Dst: empty, Src: empty, Token: empty, Cut: empty}) {
		t.Error("nil isn't the same as empty")
	}
	if header.Same(api.Header{Dst: text(1, 8)}, api.Header{Src: text(1, 8)}) {
		t.Error("a Dst is the same as a Src")
	}
}

// spoil writes to all of a slice's memory, its spare room included.
func spoil(b []byte) {
	b = b[:cap(b)]
	for i := range b {
		b[i] ^= 0xa5
	}
}

// roomy is a header whose lists have spare room, and all that memory, to be looked at later.
func roomy(h api.Header) (api.Header, [][]byte) {
	var all [][]byte
	for _, l := range []*[]byte{&h.Dst, &h.Src, &h.Token, &h.Cut} {
		memory := join(*l, "spare room")
		all = append(all, memory)
		*l = memory[:len(*l)]
	}
	return h, all
}

func TestPutNeitherChangesNorKeepsWhatIsHandedIn(t *testing.T) {
	for _, x := range examples {
		h, memory := roomy(x.h)
		_, before := roomy(x.h)
		first := header.Put(h)
		header.Right(h)
		header.Same(h, x.h)
		second := header.Put(h)
		spoil(first)
		if !reflect.DeepEqual(memory, before) {
			t.Errorf("%s: what was handed in is changed: %q", x.what, memory)
		}
		for _, b := range memory {
			spoil(b)
		}
		if !bytes.Equal(second, x.b) {
			t.Errorf("%s: an answer hangs on what became of another one, or of what was handed in: %x", x.what, second)
		}
	}
}
