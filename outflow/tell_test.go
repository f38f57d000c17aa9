package outflow_test

import (
	"math"
	"strings"
	"testing"

	"doorward/outflow"
)

// P17.3

func TestWhatIsToldAlongTheWay(t *testing.T) {
	b := bufferOf(t, 2, "")
	check(t, b, told{})
	write(t, b, "abc", 3)
	check(t, b, told{written: 3, some: true, had: "---"})
	next(t, b, 1, bytesAt(0, "a"))
	check(t, b, told{written: 3, sent: 1, some: true, had: "---"})
	next(t, b, 9, bytesAt(1, "b"))
	check(t, b, told{written: 3, sent: 2, blocked: true, had: "---"})
	finish(t, b, true)
	check(t, b, told{written: 3, sent: 2, blocked: true, had: "---"})
	raise(t, b, 3, true)
	check(t, b, told{written: 3, sent: 2, some: true, had: "---"})
	next(t, b, 9, endAt(2, "c"))
	check(t, b, told{written: 3, sent: 3, had: "---"})
	b.Lost(1, 1, false)
	check(t, b, told{written: 3, sent: 3, some: true, had: "---"})
	b.Acked(0, 1, false)
	b.Acked(2, 1, true)
	check(t, b, told{written: 3, sent: 3, some: true, had: "a-a"})
	next(t, b, 9, bytesAt(1, "b"))
	check(t, b, told{written: 3, sent: 3, had: "a-a"})
	b.Acked(1, 1, false)
	check(t, b, told{written: 3, sent: 3, done: true, had: "aaa"})
}

func TestAskingTurnsNothing(t *testing.T) {
	b := bufferOf(t, 2, "abc")
	for range 3 {
		check(t, b, told{written: 3, some: true, had: "---"})
	}
	next(t, b, 9, bytesAt(0, "ab"))
	b.Lost(1, 1, false)
	for range 3 {
		check(t, b, told{written: 3, sent: 2, some: true, had: "---"})
	}
	next(t, b, 9, bytesAt(1, "b"))
	for range 3 {
		check(t, b, told{written: 3, sent: 2, blocked: true, had: "---"})
	}
}

func TestSentIsUpToTheGreatest(t *testing.T) {
	b := bufferOf(t, 4, "abcdef")
	next(t, b, 3, bytesAt(0, "abc"))
	b.Lost(0, 3, false)
	check(t, b, told{written: 6, sent: 3, some: true, had: "------"})
	next(t, b, 2, bytesAt(0, "ab"))
	check(t, b, told{written: 6, sent: 3, some: true, had: "------"})
	b.Acked(0, 2, false)
	check(t, b, told{written: 6, sent: 3, some: true, had: "aa----"})
	next(t, b, 9, bytesAt(2, "c"), bytesAt(3, "d"))
	check(t, b, told{written: 6, sent: 4, blocked: true, had: "aa----"})
}

func TestSomeIsOfOneByte(t *testing.T) {
	end := bufferOf(t, 0, "")
	finish(t, end, true)
	for _, x := range []struct {
		b    *outflow.Buffer
		want bool
	}{
		{bufferOf(t, 0, ""), false}, {bufferOf(t, 9, ""), false}, {bufferOf(t, 0, "a"), false}, {bufferOf(t, 1, "a"), true},
		{bufferOf(t, 1, "abc"), true}, {end, true}, {gone(t), false}, {fourStates(t), true},
	} {
		if got := x.b.Some(); got != x.want {
			t.Errorf("Some() = %v", got)
		}
		if _, _, _, some := x.b.Next(1); some != x.want {
			t.Errorf("Next(1) = %v", some)
		}
	}
}

func TestTheLimitIsJustAtTheFirstNewOne(t *testing.T) {
	b := bufferOf(t, 3, "abcd")
	next(t, b, 2, bytesAt(0, "ab"))
	check(t, b, told{written: 4, sent: 2, some: true, had: "----"})
	next(t, b, 1, bytesAt(2, "c"))
	check(t, b, told{written: 4, sent: 3, blocked: true, had: "----"})
	raise(t, b, 4, true)
	check(t, b, told{written: 4, sent: 3, some: true, had: "----"})
	next(t, b, 1, bytesAt(3, "d"))
	check(t, b, told{written: 4, sent: 4, had: "----"})
	write(t, b, "e", 1)
	check(t, b, told{written: 5, sent: 4, blocked: true, had: "-----"})
}

func TestALostByteIsNotBlocked(t *testing.T) {
	b := bufferOf(t, 2, "abc")
	next(t, b, 9, bytesAt(0, "ab"))
	for at := range uint64(2) {
		b.Lost(at, 1, false)
		check(t, b, told{written: 3, sent: 2, some: true, had: "---"})
		b.Next(9)
		check(t, b, told{written: 3, sent: 2, blocked: true, had: "---"})
	}
	b.Lost(0, 2, false)
	b.Acked(0, 2, false)
	check(t, b, told{written: 3, sent: 2, blocked: true, had: "aa-"})
}

func TestWhereNoByteIsNewItIsNotBlocked(t *testing.T) {
	for _, b := range []*outflow.Buffer{bufferOf(t, 0, ""), bufferOf(t, 9, ""), gone(t)} {
		if b.Blocked() {
			t.Errorf("%+v", tell(b))
		}
	}
	end := bufferOf(t, 0, "")
	finish(t, end, true)
	if end.Blocked() {
		t.Error("it is blocked with the end alone")
	}
	next(t, end, 1, endAt(0, ""))
	if end.Blocked() {
		t.Error("it is blocked with the end out")
	}
}

func TestDoneIsOfAllAndTheEnd(t *testing.T) {
	open := bufferOf(t, 9, "abc")
	next(t, open, 9, bytesAt(0, "abc"))
	open.Acked(0, 3, true)
	if open.Done() || bufferOf(t, 9, "").Done() {
		t.Error("it is done, and isn't finished")
	}
	finish(t, open, true)
	if open.Done() {
		t.Error("it is done, and its end is new")
	}
	for _, x := range []struct {
		acked []piece
		want  bool
	}{
		{nil, false},
		{[]piece{bytesAt(0, "abc")}, false},
		{[]piece{endAt(0, "")}, false},
		{[]piece{endAt(1, "bc")}, false},
		{[]piece{endAt(0, "ab")}, false},
		{[]piece{bytesAt(0, "a"), endAt(2, "c")}, false},
		{[]piece{endAt(0, "abc")}, true},
		{[]piece{bytesAt(0, "abc"), endAt(3, "")}, true},
		{[]piece{endAt(2, "c"), bytesAt(1, "b"), bytesAt(0, "a")}, true},
	} {
		b := gone(t)
		for _, p := range x.acked {
			b.Acked(p.off, len(p.data), p.end)
		}
		if got := b.Done(); got != x.want {
			t.Errorf("%+v: Done() = %v", x.acked, got)
		}
	}
}

func TestHadIsOfBytesThatAreThere(t *testing.T) {
	for _, x := range []struct {
		off  uint64
		n    int
		want bool
	}{
		{0, 0, true}, {0, 1, true}, {0, 2, true}, {0, 3, false}, {0, 4, false}, {1, 1, true}, {1, 2, false}, {1, 3, false}, {2, 0, true}, {2, 1, false}, {2, 2, false},
		{3, 0, true}, {3, 1, true}, {3, 2, true}, {3, 3, false}, {4, 1, true}, {4, 2, false}, {5, 0, true}, {5, 1, false}, {6, 0, false}, {6, 1, false}, {6, -1, false},
		{0, -1, false}, {1, -1, false}, {5, -1, false}, {5, -5, false}, {0, math.MinInt, false}, {0, math.MaxInt, false}, {4, math.MaxInt, false}, {5, math.MaxInt, false},
		{greatest, 0, false}, {greatest, 1, false}, {greatest, math.MaxInt, false}, {math.MaxUint64, 0, false}, {math.MaxUint64, 1, false}, {math.MaxUint64, 2, false},
		{math.MaxUint64, -1, false}, {math.MaxUint64, math.MaxInt, false}, {1 << 63, math.MaxInt, false}, {1 << 32, 0, false},
	} {
		b := bufferOf(t, 9, "abcde")
		next(t, b, 9, bytesAt(0, "abcde"))
		b.Acked(0, 2, false)
		b.Acked(3, 2, false)
		if got := b.Had(x.off, x.n); got != x.want {
			t.Errorf("Had(%d, %d) = %v", x.off, x.n, got)
		}
	}
}

func TestHadIsOfAckedBytesAlone(t *testing.T) {
	b := fourStates(t)
	for at := range 8 {
		for n := range 10 - at {
			if got, want := b.Had(uint64(at), n), n == 0 || at+n <= 2; got != want {
				t.Errorf("Had(%d, %d) = %v", at, n, got)
			}
		}
	}
	if b.Had(9, 0) || !bufferOf(t, 0, "").Had(0, 0) || bufferOf(t, 0, "").Had(1, 0) || bufferOf(t, 0, "").Had(0, 1) {
		t.Error("of none at, and behind the end")
	}
}

func TestWrittenIsOfAllBytes(t *testing.T) {
	b := bufferOf(t, 1, "")
	for count := range full + 3 {
		if b.Written() != min(count, full) {
			t.Fatalf("%d are written, want %d", b.Written(), count)
		}
		b.Write([]byte("a"))
	}
	all := bufferOf(t, full, strings.Repeat("a", full))
	next(t, all, full, bytesAt(0, strings.Repeat("a", full)))
	all.Acked(0, full, false)
	if all.Written() != full || all.Sent() != full {
		t.Errorf("%+v", tell(all))
	}
}
