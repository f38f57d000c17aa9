package reasm_test

import (
	"bytes"
	"math/rand"
	"testing"

	"doorward/api"
	"doorward/reasm"
)

// P16.3

// written is a text of so many bytes, drawn.
func written(draw *rand.Rand, count int) []byte {
	text := make([]byte, count)
	draw.Read(text)
	return text
}

// cut is a text in pieces, of no bytes, too; the last one may end it.
func cut(draw *rand.Rand, text []byte, greatest int) []piece {
	var all []piece
	for at := 0; at < len(text); {
		end := min(len(text), at+draw.Intn(greatest+1))
		all = append(all, piece{uint64(at), string(text[at:end]), end == len(text) && draw.Intn(2) == 0})
		at = end
	}
	return all
}

// overOthers adds pieces that come over those that are there.
func overOthers(draw *rand.Rand, text []byte, all []piece) []piece {
	for range draw.Intn(len(all) + 1) {
		off := draw.Intn(len(text) + 1)
		end := off + draw.Intn(len(text)-off+1)
		all = append(all, piece{uint64(off), string(text[off:end]), end == len(text) && draw.Intn(2) == 0})
	}
	return all
}

// heldWithin fails the test, if more is held than a window, or behind the limit.
func heldWithin(t *testing.T, b *reasm.Buffer, window int) {
	t.Helper()
	if b.Held() > window || b.Ready() > b.Held() || b.Top() > b.Limit() || b.Has(b.Limit(), b.Limit()+1) {
		t.Fatalf("of a window of %d: %d are held, %d could be read, the greatest end is %d of %d", window, b.Held(), b.Ready(), b.Top(), b.Limit())
	}
}

// drain reads some bytes, or all there are, behind those that were read.
func drain(t *testing.T, draw *rand.Rand, b *reasm.Buffer, got, text []byte) []byte {
	t.Helper()
	n := draw.Intn(2 * (b.Ready() + 2))
	want := min(n, b.Ready())
	more := b.Read(n)
	if len(more) != want {
		t.Fatalf("%d bytes are read, want %d", len(more), want)
	}
	got = append(got, more...)
	if !bytes.HasPrefix(text, got) {
		t.Fatalf("%x isn't a beginning of %x", got, text)
	}
	return got
}

func TestWhatIsReadIsABeginningOfWhatWasWritten(t *testing.T) {
	draw := rand.New(rand.NewSource(16))
	for range 4000 {
		text := written(draw, draw.Intn(60))
		window := draw.Intn(2*len(text) + 2)
		b := reasm.New(window)
		all := overOthers(draw, text, cut(draw, text, 1+draw.Intn(9)))
		var got []byte
		for range draw.Intn(3*len(all) + 1) {
			p := all[draw.Intn(len(all))]
			if e := b.Put(p.off, []byte(p.data), p.last); e != api.OK && e != api.ErrFlow {
				t.Fatalf("Put(%d, %x, %v) = %d, of %x", p.off, p.data, p.last, e, text)
			}
			heldWithin(t, b, window)
			if draw.Intn(3) == 0 {
				got = drain(t, draw, b, got, text)
			}
			if b.Limit() != uint64(len(got)+window) || b.Done() && len(got) != len(text) {
				t.Fatalf("%d of %d were read: the limit is %d of a window of %d; done: %v", len(got), len(text), b.Limit(), window, b.Done())
			}
		}
		for b.Ready() > 0 {
			got = drain(t, draw, b, got, text)
		}
	}
}

// putUntilAllCame has pieces come in an order, again and again, where the limit refuses some, till a round refuses none; what there is, is read between.
func putUntilAllCame(t *testing.T, draw *rand.Rand, b *reasm.Buffer, all []piece, text []byte) []byte {
	t.Helper()
	var got []byte
	for refused := true; refused; {
		refused = false
		for _, p := range all {
			e := b.Put(p.off, []byte(p.data), p.last)
			if e != api.OK && e != api.ErrFlow {
				t.Fatalf("Put(%d, %x, %v) = %d", p.off, p.data, p.last, e)
			}
			refused = refused || e != api.OK
			if draw.Intn(2) == 0 {
				got = drain(t, draw, b, got, text)
			}
		}
	}
	return append(got, b.Read(len(text)+1)...)
}

func TestAllIsReadIfAllCame(t *testing.T) {
	draw := rand.New(rand.NewSource(16))
	for range 2000 {
		text := written(draw, 1+draw.Intn(80))
		size := 1 + draw.Intn(9)
		all := cut(draw, text, size)
		window := size + draw.Intn(len(text))
		draw.Shuffle(len(all), func(i, j int) { all[i], all[j] = all[j], all[i] })
		b := reasm.New(window)
		got := putUntilAllCame(t, draw, b, all, text)
		if !bytes.Equal(got, text) || b.Held() != 0 || b.Ready() != 0 || b.Top() != uint64(len(text)) {
			t.Fatalf("%x is read of %x", got, text)
		}
		if e := b.Final(uint64(len(text))); e != api.OK || !b.Done() {
			t.Fatalf("Final(%d) = %d; done: %v", len(text), e, b.Done())
		}
	}
}

func TestNoMoreIsHeldThanTheWindowWhateverComes(t *testing.T) {
	draw := rand.New(rand.NewSource(16))
	for range 300 {
		window := draw.Intn(30)
		b := reasm.New(window)
		kept, were := map[uint64]byte{}, uint64(0)
		for range 200 {
			off, data := were+uint64(draw.Intn(window+6)), written(draw, draw.Intn(12))
			off -= min(off, uint64(draw.Intn(8)))
			if e := b.Put(off, data, draw.Intn(50) == 0); e == api.OK {
				for i, x := range data {
					if _, there := kept[off+uint64(i)]; !there {
						kept[off+uint64(i)] = x
					}
				}
			}
			heldWithin(t, b, window)
			if draw.Intn(4) > 0 {
				continue
			}
			for _, x := range b.Read(draw.Intn(9)) {
				if first, there := kept[were]; !there || first != x {
					t.Fatalf("%x is read at %d, want %x", x, were, first)
				}
				were++
			}
		}
	}
}

func TestALongStreamGoesThroughASmallWindow(t *testing.T) {
	draw := rand.New(rand.NewSource(16))
	text := written(draw, 300000)
	b := reasm.New(1000)
	var got []byte
	for len(got) < len(text) {
		all := cut(draw, text[len(got):min(len(text), len(got)+1000)], 100)
		draw.Shuffle(len(all), func(i, j int) { all[i], all[j] = all[j], all[i] })
		from := len(got)
		for _, p := range all {
			p.off += uint64(from)
			put(t, b, bytesAt(p.off, p.data))
			heldWithin(t, b, 1000)
		}
		got = append(got, b.Read(1+draw.Intn(1200))...)
	}
	final(t, b, uint64(len(text)))
	if !bytes.Equal(got, text) || !b.Done() || b.Held() != 0 || b.Limit() != uint64(len(text))+1000 {
		t.Fatalf("%+v", tell(b))
	}
}

// That many calls, each of which looks at all that is there, end soon: bytes come one by one to the widest window, from behind and from the beginning.
func TestBytesComeOneByOne(t *testing.T) {
	behind, ahead := reasm.New(widest), reasm.New(widest)
	for i := range uint64(widest) {
		put(t, ahead, bytesAt(i, "a"))
		put(t, behind, bytesAt(widest-1-i, "a"))
		if ahead.Ready() != int(i)+1 || !ahead.Has(0, i+1) || behind.Held() != int(i)+1 || behind.Has(0, widest) != (i == widest-1) {
			t.Fatalf("%d, %d could be read", ahead.Ready(), behind.Ready())
		}
	}
	if behind.Ready() != widest {
		t.Fatalf("%d could be read", behind.Ready())
	}
	for range widest {
		read(t, behind, 1, "a")
	}
	if behind.Held() != 0 || behind.Limit() != 2*widest {
		t.Fatalf("%d are held", behind.Held())
	}
}
