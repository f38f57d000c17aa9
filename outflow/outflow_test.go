package outflow_test

import (
	"math"
	"strings"
	"testing"

	"doorward/outflow"
)

// The greatest integer, and how many bytes a buffer has at most, written down apart from the program's.
const (
	greatest uint64 = 4611686018427387903
	full            = 2000
)

// piece is bytes at a place, and perhaps the end: what goes out, what was acked, what was lost.
type piece struct {
	off  uint64
	data string
	end  bool
}

func bytesAt(off uint64, data string) piece { return piece{off: off, data: data} }
func endAt(off uint64, data string) piece   { return piece{off: off, data: data, end: true} }

// bufferOf is a buffer of a limit, with bytes that were written.
func bufferOf(t *testing.T, limit uint64, text string) *outflow.Buffer {
	t.Helper()
	b := outflow.New(limit)
	if b == nil {
		t.Fatalf("New(%d) is nil", limit)
	}
	write(t, b, text, len(text))
	return b
}

// write fails the test, if not as many bytes are taken.
func write(t *testing.T, b *outflow.Buffer, text string, want int) {
	t.Helper()
	if got := b.Write([]byte(text)); got != want {
		t.Fatalf("Write(%q) = %d, want %d", text, got, want)
	}
}

func finish(t *testing.T, b *outflow.Buffer, want bool) {
	t.Helper()
	if got := b.Finish(); got != want {
		t.Fatalf("Finish() = %v", got)
	}
}

func raise(t *testing.T, b *outflow.Buffer, limit uint64, want bool) {
	t.Helper()
	if got := b.Raise(limit); got != want {
		t.Fatalf("Raise(%d) = %v", limit, got)
	}
}

// next fails the test, if other pieces go out, one behind the other, each of at most so many bytes.
func next(t *testing.T, b *outflow.Buffer, most int, want ...piece) {
	t.Helper()
	for _, p := range want {
		if off, data, end, some := b.Next(most); off != p.off || string(data) != p.data || end != p.end || !some {
			t.Fatalf("Next(%d) = %d, %q, %v, %v, want %+v", most, off, data, end, some, p)
		}
	}
}

// none fails the test, if something goes out, or the buffer turns, as nothing goes out.
func none(t *testing.T, b *outflow.Buffer, all ...int) {
	t.Helper()
	ahead := tell(b)
	for _, most := range all {
		if off, data, end, some := b.Next(most); off != 0 || len(data) != 0 || end || some {
			t.Fatalf("Next(%d) = %d, %q, %v, %v", most, off, data, end, some)
		}
		if behind := tell(b); ahead != behind {
			t.Fatalf("Next(%d) turns %+v to %+v", most, ahead, behind)
		}
	}
}

// told is all that a buffer tells of itself; of its places those near to its beginning that were acked have a mark.
type told struct {
	written             int
	sent                uint64
	some, blocked, done bool
	had                 string
}

func tell(b *outflow.Buffer) told {
	x := told{b.Written(), b.Sent(), b.Some(), b.Blocked(), b.Done(), ""}
	for i := range min(24, b.Written()) {
		if b.Had(uint64(i), 1) {
			x.had += "a"
		} else {
			x.had += "-"
		}
	}
	return x
}

// check fails the test, if a buffer tells another thing of itself.
func check(t *testing.T, b *outflow.Buffer, want told) {
	t.Helper()
	if got := tell(b); got != want {
		t.Fatalf("%+v, want %+v", got, want)
	}
}

// P17.1

func TestABufferIsOfItsLimit(t *testing.T) {
	for _, limit := range []uint64{0, 1, 2, full - 1, full, full + 1, greatest - 1, greatest, greatest + 1, math.MaxUint64} {
		b := bufferOf(t, limit, "")
		check(t, b, told{})
		none(t, b, 1, 5)
		raise(t, b, limit, false)
		write(t, b, "abc", 3)
		count := int(min(limit, 3))
		check(t, b, told{written: 3, some: count > 0, blocked: count == 0, had: "---"})
		if count == 0 {
			none(t, b, 1, 5)
			continue
		}
		next(t, b, 5, bytesAt(0, "abc"[:count]))
		check(t, b, told{written: 3, sent: uint64(count), blocked: count < 3, had: "---"})
		none(t, b, 1, 5)
	}
}

func TestTheChaptersExample(t *testing.T) {
	b := bufferOf(t, 1, "ab")
	next(t, b, 9, bytesAt(0, "a"))
	if !b.Blocked() {
		t.Error("it isn't blocked")
	}
	none(t, b, 9)
}

func TestBytesAreWrittenBehindAll(t *testing.T) {
	b := bufferOf(t, 100, "ab")
	check(t, b, told{written: 2, some: true, had: "--"})
	write(t, b, "c", 1)
	write(t, b, "", 0)
	write(t, b, "def", 3)
	check(t, b, told{written: 6, some: true, had: "------"})
	next(t, b, 4, bytesAt(0, "abcd"))
	write(t, b, "gh", 2)
	next(t, b, 9, bytesAt(4, "efgh"))
	check(t, b, told{written: 8, sent: 8, had: "--------"})
	b.Acked(0, 8, false)
	write(t, b, "ij", 2)
	check(t, b, told{written: 10, sent: 8, some: true, had: "aaaaaaaa--"})
	next(t, b, 9, bytesAt(8, "ij"))
	b.Lost(9, 1, false)
	write(t, b, "kl", 2)
	next(t, b, 9, bytesAt(9, "j"), bytesAt(10, "kl"))
	none(t, b, 9)
}

func TestWhatIsWrittenIsNewWhateverIsAhead(t *testing.T) {
	for _, became := range []func(b *outflow.Buffer){
		func(b *outflow.Buffer) {},
		func(b *outflow.Buffer) { b.Acked(0, 9, true) },
		func(b *outflow.Buffer) { b.Lost(0, 9, true); b.Next(9) },
	} {
		b := bufferOf(t, 100, "abc")
		next(t, b, 9, bytesAt(0, "abc"))
		became(b)
		write(t, b, "def", 3)
		b.Acked(3, 3, true)
		b.Lost(3, 3, true)
		if b.Had(3, 1) || b.Sent() != 3 {
			t.Fatalf("%+v", tell(b))
		}
		next(t, b, 9, bytesAt(3, "def"))
	}
}

func TestWriteOfNone(t *testing.T) {
	b := bufferOf(t, 9, "ab")
	for _, data := range [][]byte{nil, {}, make([]byte, 0, 9)} {
		if got := b.Write(data); got != 0 {
			t.Errorf("Write of none = %d", got)
		}
	}
	check(t, b, told{written: 2, some: true, had: "--"})
	next(t, b, 9, bytesAt(0, "ab"))
	write(t, b, "", 0)
	none(t, b, 9)
}

func TestThereIsRoomForSoManyBytesInAll(t *testing.T) {
	text := strings.Repeat("abcdefg", 1000)
	for _, x := range []struct{ count, want, left int }{
		{full - 1, full - 1, 1}, {full, full, 0}, {full + 1, full, 0}, {3000, full, 0}, {7000, full, 0}, {0, 0, full}, {1, 1, full - 1},
	} {
		b := bufferOf(t, greatest, "")
		write(t, b, text[:x.count], x.want)
		write(t, b, text[x.want:x.want+full+5], x.left)
		for _, more := range []string{"x", "", text} {
			write(t, b, more, 0)
		}
		if b.Written() != full {
			t.Fatalf("%d are written", b.Written())
		}
		next(t, b, full+1, bytesAt(0, text[:full]))
		b.Acked(0, full, false)
		write(t, b, "x", 0)
		finish(t, b, true)
		next(t, b, 1, endAt(full, ""))
		b.Acked(full, 0, true)
		if !b.Done() || b.Written() != full || b.Sent() != full || !b.Had(0, full) || b.Had(0, full+1) {
			t.Fatalf("%+v", tell(b))
		}
	}
}

func TestRoomIsThereInPieces(t *testing.T) {
	b := bufferOf(t, greatest, strings.Repeat("a", full-3))
	write(t, b, "bcdef", 3)
	next(t, b, full-4, bytesAt(0, strings.Repeat("a", full-4)))
	next(t, b, 9, bytesAt(full-4, "abcd"))
	none(t, b, 9)
	write(t, b, "e", 0)
}

func TestNothingIsWrittenBehindTheEnd(t *testing.T) {
	for _, text := range []string{"", "a", strings.Repeat("a", full)} {
		b := bufferOf(t, greatest, text)
		finish(t, b, true)
		for _, more := range []string{"", "b", "bcd", strings.Repeat("b", full)} {
			write(t, b, more, 0)
		}
		next(t, b, full, endAt(0, text))
		write(t, b, "b", 0)
		b.Lost(0, full, true)
		write(t, b, "b", 0)
		next(t, b, full, endAt(0, text))
		b.Acked(0, full, true)
		write(t, b, "b", 0)
		if !b.Done() || b.Written() != len(text) || b.Sent() != uint64(len(text)) || b.Some() {
			t.Fatalf("%+v", tell(b))
		}
	}
}

func TestItIsFinishedOnce(t *testing.T) {
	b := bufferOf(t, 9, "abc")
	finish(t, b, true)
	finish(t, b, false)
	check(t, b, told{written: 3, some: true, had: "---"})
	next(t, b, 9, endAt(0, "abc"))
	finish(t, b, false)
	none(t, b, 1, 9)
	b.Lost(0, 3, true)
	finish(t, b, false)
	next(t, b, 9, endAt(0, "abc"))
	b.Acked(0, 3, true)
	finish(t, b, false)
	check(t, b, told{written: 3, sent: 3, done: true, had: "aaa"})
}

func TestItIsFinishedWithNoBytes(t *testing.T) {
	for _, limit := range []uint64{0, 1, greatest} {
		b := bufferOf(t, limit, "")
		finish(t, b, true)
		check(t, b, told{some: true})
		finish(t, b, false)
		next(t, b, 1, endAt(0, ""))
		check(t, b, told{})
		none(t, b, 1)
		b.Lost(0, 0, true)
		check(t, b, told{some: true})
		next(t, b, 5, endAt(0, ""))
		b.Acked(0, 0, true)
		check(t, b, told{done: true})
		none(t, b, 1)
	}
}

func TestTheLimitIsRaisedByWhatIsMore(t *testing.T) {
	text := "abcdefgh"
	for _, limit := range []uint64{0, 1, 3, 7} {
		b := bufferOf(t, limit, text)
		for _, less := range []uint64{0, limit / 2, limit - min(limit, 1), limit} {
			raise(t, b, less, false)
			check(t, b, told{written: 8, some: limit > 0, blocked: limit == 0, had: "--------"})
		}
		if limit > 0 {
			next(t, b, 20, bytesAt(0, text[:limit]))
		}
		for _, less := range []uint64{0, limit} {
			raise(t, b, less, false)
			none(t, b, 20)
		}
		raise(t, b, limit+1, true)
		raise(t, b, limit+1, false)
		raise(t, b, limit, false)
		next(t, b, 20, bytesAt(limit, text[limit:limit+1]))
		none(t, b, 20)
		raise(t, b, 0, false)
	}
}

func TestTheLimitIsRaisedToTheGreatestInteger(t *testing.T) {
	for _, limit := range []uint64{full, full + 1, greatest - 1, greatest, greatest + 1, math.MaxUint64} {
		b := bufferOf(t, 1, "abc")
		next(t, b, 5, bytesAt(0, "a"))
		raise(t, b, limit, true)
		check(t, b, told{written: 3, sent: 1, some: true, had: "---"})
		raise(t, b, limit, false)
		raise(t, b, limit-1, false)
		raise(t, b, 2, false)
		raise(t, b, 0, false)
		next(t, b, 5, bytesAt(1, "bc"))
		if limit < math.MaxUint64 {
			raise(t, b, limit+1, true)
		}
		none(t, b, 5)
	}
}

func TestTheLimitIsRaisedBehindTheEnd(t *testing.T) {
	b := bufferOf(t, 1, "abc")
	finish(t, b, true)
	next(t, b, 5, bytesAt(0, "a"))
	none(t, b, 5)
	raise(t, b, 2, true)
	next(t, b, 5, bytesAt(1, "b"))
	none(t, b, 5)
	raise(t, b, 3, true)
	next(t, b, 5, endAt(2, "c"))
	raise(t, b, 9, true)
	none(t, b, 5)
	b.Acked(0, 3, true)
	raise(t, b, 10, true)
	raise(t, b, 10, false)
	check(t, b, told{written: 3, sent: 3, done: true, had: "aaa"})
}

func TestANilBuffer(t *testing.T) {
	var b *outflow.Buffer
	write(t, b, "", 0)
	write(t, b, "abc", 0)
	finish(t, b, false)
	for _, limit := range []uint64{0, 1, greatest, math.MaxUint64} {
		raise(t, b, limit, false)
	}
	none(t, b, math.MinInt, -1, 0, 1, 5, math.MaxInt)
	for _, off := range []uint64{0, 1, greatest, math.MaxUint64} {
		for _, n := range []int{math.MinInt, -1, 0, 1, math.MaxInt} {
			for _, end := range []bool{false, true} {
				b.Acked(off, n, end)
				b.Lost(off, n, end)
			}
			if b.Had(off, n) {
				t.Errorf("Had(%d, %d)", off, n)
			}
		}
	}
	check(t, b, told{})
}

func TestBuffersAreApart(t *testing.T) {
	a, b := bufferOf(t, 2, "abc"), bufferOf(t, 9, "xyz")
	next(t, a, 9, bytesAt(0, "ab"))
	finish(t, b, true)
	check(t, b, told{written: 3, some: true, had: "---"})
	next(t, b, 9, endAt(0, "xyz"))
	b.Acked(0, 3, true)
	check(t, a, told{written: 3, sent: 2, blocked: true, had: "---"})
	check(t, b, told{written: 3, sent: 3, done: true, had: "aaa"})
}
