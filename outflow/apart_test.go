package outflow_test

import (
	"bytes"
	"strings"
	"testing"
)

// What is handed in and handed back: a buffer isn't turned by what is written to either.

// scribble writes all over bytes, and their spare room.
func scribble(data []byte) {
	data = data[:cap(data)]
	for i := range data {
		data[i] = '!'
	}
}

func TestWhatIsWrittenToBytesThatWereHandedInDoesNotTurnABuffer(t *testing.T) {
	b := bufferOf(t, 100, "")
	for _, text := range []string{"abc", "", "defgh", "i"} {
		data := append(make([]byte, 0, 32), text...)
		if b.Write(data) != len(text) {
			t.Fatal(text)
		}
		scribble(data)
	}
	next(t, b, 100, bytesAt(0, "abcdefghi"))
}

func TestWriteTurnsNothingOfBytes(t *testing.T) {
	room := []byte("abcdefgh....")
	b := bufferOf(t, 5, "")
	b.Write(room[:2:4])
	b.Write(room[2:6])
	b.Write(room[8:8])
	scribble(nextOf(b, 3))
	scribble(nextOf(b, 9))
	b.Lost(0, 9, false)
	scribble(nextOf(b, 9))
	b.Write([]byte(strings.Repeat("x", full)))
	b.Write(room)
	b.Finish()
	b.Write(room)
	if string(room) != "abcdefgh...." {
		t.Errorf("%q", room)
	}
}

// nextOf is the bytes that go out next.
func nextOf(b interface {
	Next(int) (uint64, []byte, bool, bool)
}, most int) []byte {
	_, data, _, _ := b.Next(most)
	return data
}

func TestWhatIsWrittenToBytesThatWentOutDoesNotTurnABuffer(t *testing.T) {
	b := bufferOf(t, 6, "abcdefgh")
	finish(t, b, true)
	first := nextOf(b, 3)
	scribble(first)
	second := nextOf(b, 3)
	if string(second) != "def" || string(first) != "!!!" {
		t.Fatalf("%q, %q", first, second)
	}
	scribble(second)
	scribble(nextOf(b, 3))
	b.Lost(0, 6, false)
	next(t, b, 4, bytesAt(0, "abcd"))
	scribble(nextOf(b, 9))
	raise(t, b, 9, true)
	b.Lost(0, 6, false)
	next(t, b, 9, bytesAt(0, "abcdef"), endAt(6, "gh"))
	b.Lost(0, 0, true)
	scribble(nextOf(b, 9)) // none, with the end
	b.Lost(0, 8, true)
	next(t, b, 9, endAt(0, "abcdefgh"))
}

func TestBytesThatWentOutAreNotTurnedByABuffer(t *testing.T) {
	b := bufferOf(t, 100, "abcdef")
	first := nextOf(b, 3)
	spare := append([]byte(nil), first[:cap(first)]...)
	write(t, b, "ghij", 4)
	b.Lost(0, 3, false)
	again := nextOf(b, 9)
	scribble(again)
	b.Acked(0, 3, false)
	next(t, b, 9, bytesAt(3, "defghij"))
	write(t, b, strings.Repeat("x", 300), 300)
	if string(first) != "abc" || !bytes.Equal(first[:cap(first)], spare) {
		t.Errorf("%q", first[:cap(first)])
	}
}
