package outflow_test

import (
	"math"
	"testing"

	"doorward/outflow"
)

// P17.2: what became of what went out.

// fourStates is a buffer whose bytes are acked, lost, out, and new, two of each.
func fourStates(t *testing.T) *outflow.Buffer {
	t.Helper()
	b := bufferOf(t, 6, "abcdefgh")
	next(t, b, 6, bytesAt(0, "abcdef"))
	b.Acked(0, 2, false)
	b.Lost(2, 2, false)
	check(t, b, told{written: 8, sent: 6, some: true, had: "aa------"})
	return b
}

func TestAckedAreThoseThatAreNotNew(t *testing.T) {
	b := fourStates(t)
	b.Acked(0, 8, false)
	check(t, b, told{written: 8, sent: 6, blocked: true, had: "aaaaaa--"})
	none(t, b, 9)
	raise(t, b, 8, true)
	next(t, b, 9, bytesAt(6, "gh"))
	for at, want := range []string{"aaaaaaa-", "aaaaaaaa"} {
		b.Acked(uint64(6+at), 1, false)
		check(t, b, told{written: 8, sent: 8, had: want})
	}
}

func TestLostAreThoseThatAreOut(t *testing.T) {
	b := fourStates(t)
	b.Lost(0, 8, false)
	check(t, b, told{written: 8, sent: 6, some: true, had: "aa------"})
	next(t, b, 9, bytesAt(2, "cdef"))
	none(t, b, 9)
	raise(t, b, 8, true)
	next(t, b, 9, bytesAt(6, "gh"))
}

func TestLostAgainIsAsOnce(t *testing.T) {
	b := gone(t)
	for range 3 {
		b.Lost(0, 3, true)
	}
	next(t, b, 9, endAt(0, "abc"))
	none(t, b, 9)
	b.Lost(0, 3, true)
	next(t, b, 9, endAt(0, "abc"))
}

func TestWhatWasLostMayBeAckedAfterAll(t *testing.T) {
	b := gone(t)
	b.Lost(0, 3, true)
	b.Acked(1, 1, false)
	check(t, b, told{written: 3, sent: 3, some: true, had: "-a-"})
	next(t, b, 9, bytesAt(0, "a"), endAt(2, "c"))
	b.Lost(0, 3, true)
	b.Acked(0, 3, true)
	check(t, b, told{written: 3, sent: 3, done: true, had: "aaa"})
	none(t, b, 9)
}

func TestWhatWasAckedStays(t *testing.T) {
	b := gone(t)
	b.Acked(0, 3, true)
	b.Lost(0, 3, true)
	b.Acked(0, 3, true)
	check(t, b, told{written: 3, sent: 3, done: true, had: "aaa"})
	none(t, b, 9)
}

// Of n bytes from off on, as far as there are.
func TestTheBytesFromOffOn(t *testing.T) {
	for _, x := range []struct {
		off  uint64
		n    int
		want string
	}{
		{0, 1, "a----"}, {0, 4, "aaaa-"}, {0, 5, "aaaaa"}, {0, 6, "aaaaa"}, {1, 1, "-a---"}, {1, 3, "-aaa-"}, {1, 4, "-aaaa"}, {1, 5, "-aaaa"},
		{4, 1, "----a"}, {4, 2, "----a"}, {5, 1, "-----"}, {5, 0, "-----"}, {6, 1, "-----"},
		{0, 0, "-----"}, {2, 0, "-----"}, {0, -1, "-----"}, {2, -1, "-----"}, {4, -3, "-----"}, {5, -5, "-----"}, {2, math.MinInt, "-----"},
		{0, math.MaxInt, "aaaaa"}, {2, math.MaxInt, "--aaa"}, {5, math.MaxInt, "-----"}, {6, math.MaxInt, "-----"},
		{full, 1, "-----"}, {greatest, 1, "-----"}, {greatest, math.MaxInt, "-----"}, {greatest - 3, math.MaxInt, "-----"}, {1 << 63, math.MaxInt, "-----"}, {1 << 32, 5, "-----"},
		{math.MaxUint64, 0, "-----"}, {math.MaxUint64, 1, "-----"}, {math.MaxUint64, 2, "-----"}, {math.MaxUint64 - 1, 5, "-----"}, {math.MaxUint64, math.MaxInt, "-----"}, {math.MaxUint64, math.MinInt, "-----"},
	} {
		acked := bufferOf(t, 5, "abcde")
		next(t, acked, 5, bytesAt(0, "abcde"))
		acked.Acked(x.off, x.n, false)
		check(t, acked, told{written: 5, sent: 5, had: x.want})
		none(t, acked, 5)
		lost := bufferOf(t, 5, "abcde")
		next(t, lost, 5, bytesAt(0, "abcde"))
		lost.Lost(x.off, x.n, false)
		got := []byte("-----")
		for lost.Some() {
			off, _, _, _ := lost.Next(1)
			got[off] = 'a'
		}
		if string(got) != x.want {
			t.Errorf("Lost(%d, %d): %s, want %s", x.off, x.n, got, x.want)
		}
		check(t, lost, told{written: 5, sent: 5, had: "-----"})
	}
}

// The end turns wherever the bytes are that come with it, and however many.
func TestTheEndTurnsWithWhicheverBytes(t *testing.T) {
	for _, off := range []uint64{0, 2, 3, 4, greatest, math.MaxUint64} {
		for _, n := range []int{0, -1, math.MinInt} {
			b := gone(t)
			b.Acked(0, 3, false)
			b.Lost(off, n, false)
			none(t, b, 9)
			b.Lost(off, n, true)
			check(t, b, told{written: 3, sent: 3, some: true, had: "aaa"})
			next(t, b, 9, endAt(3, ""))
			b.Acked(off, n, false)
			check(t, b, told{written: 3, sent: 3, had: "aaa"})
			b.Acked(off, n, true)
			check(t, b, told{written: 3, sent: 3, done: true, had: "aaa"})
		}
	}
}

func TestAnEndThatIsNotThereDoesNotTurn(t *testing.T) {
	b := bufferOf(t, 9, "abc")
	next(t, b, 9, bytesAt(0, "abc"))
	b.Acked(0, 3, true)
	b.Lost(0, 3, true)
	check(t, b, told{written: 3, sent: 3, had: "aaa"})
	none(t, b, 9)
	write(t, b, "d", 1)
	next(t, b, 9, bytesAt(3, "d"))
	b.Acked(3, 1, true)
	check(t, b, told{written: 4, sent: 4, had: "aaaa"})
	finish(t, b, true)
	check(t, b, told{written: 4, sent: 4, some: true, had: "aaaa"})
	next(t, b, 9, endAt(4, ""))
}

func TestAnEndThatIsNewStaysNew(t *testing.T) {
	for _, all := range []string{"", "abc"} {
		b := bufferOf(t, 9, all)
		if all != "" {
			next(t, b, 9, bytesAt(0, all))
		}
		b.Acked(0, 3, false)
		finish(t, b, true)
		b.Acked(uint64(len(all)), 0, true)
		b.Lost(uint64(len(all)), 0, true)
		if b.Done() || !b.Some() {
			t.Fatalf("%+v", tell(b))
		}
		next(t, b, 9, endAt(uint64(len(all)), ""))
		none(t, b, 9)
	}
}

func TestAnEndIsLostIfItIsOutAlone(t *testing.T) {
	b := gone(t)
	b.Acked(0, 3, false)
	b.Lost(3, 0, true)
	b.Lost(3, 0, true)
	b.Acked(3, 0, true) // it was lost, and came after all
	check(t, b, told{written: 3, sent: 3, done: true, had: "aaa"})
	b.Lost(3, 0, true)
	check(t, b, told{written: 3, sent: 3, done: true, had: "aaa"})
	none(t, b, 9)
}

func TestTheEndIsAckedAheadOfBytes(t *testing.T) {
	b := gone(t)
	b.Acked(2, 1, true)
	check(t, b, told{written: 3, sent: 3, had: "--a"})
	b.Lost(0, 2, false)
	next(t, b, 9, bytesAt(0, "ab"))
	b.Acked(0, 2, false)
	check(t, b, told{written: 3, sent: 3, done: true, had: "aaa"})
}

func TestWhatIsNewIsNeitherAckedNorLost(t *testing.T) {
	b := bufferOf(t, 9, "abc")
	finish(t, b, true)
	b.Acked(0, 3, true)
	b.Lost(0, 3, true)
	check(t, b, told{written: 3, some: true, had: "---"})
	next(t, b, 9, endAt(0, "abc"))
	none(t, b, 9)
}
