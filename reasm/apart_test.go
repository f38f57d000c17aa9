package reasm_test

import (
	"bytes"
	"testing"

	"doorward/api"
)

// What is handed in and handed back: a buffer isn't turned by what is written to either.

// scribble writes all over bytes, and their spare room.
func scribble(data []byte) {
	data = data[:cap(data)]
	for i := range data {
		data[i] = '!'
	}
}

func TestWhatIsWrittenToBytesThatCameDoesNotTurnABuffer(t *testing.T) {
	b := bufferOf(t, 16)
	for _, p := range []piece{bytesAt(4, "efgh"), bytesAt(0, "ab"), lastAt(7, "HIJ"), bytesAt(0, "ABCDEF")} {
		data := append(make([]byte, 0, 32), p.data...)
		if e := b.Put(p.off, data, p.last); e != api.OK {
			t.Fatal(e)
		}
		scribble(data)
	}
	read(t, b, 16, "abCDefghIJ")
}

func TestPutTurnsNothingOfBytes(t *testing.T) {
	room := []byte("abcdefgh....")
	b := bufferOf(t, 8)
	b.Put(2, room[2:4:6], false)
	b.Put(0, room[:8], false)
	b.Put(0, room[1:4], false)
	b.Put(7, room[:4], true) // beyond the limit
	b.Put(greatest, room[:2], true)
	b.Put(0, room[:7], true) // below what came
	b.Put(8, room[8:8], true)
	scribble(b.Read(3))
	scribble(b.Read(9))
	if string(room) != "abcdefgh...." {
		t.Errorf("%q", room)
	}
}

func TestWhatIsWrittenToBytesThatWereReadDoesNotTurnABuffer(t *testing.T) {
	b := bufferOf(t, 16, bytesAt(0, "abcdefgh"), bytesAt(10, "k"))
	scribble(b.Read(0))
	scribble(b.Read(-1))
	first := b.Read(3)
	scribble(first)
	second := b.Read(2)
	if string(second) != "de" {
		t.Fatalf("%q", second)
	}
	third := b.Read(9)
	scribble(second)
	scribble(b.Read(9))
	if string(third) != "fgh" || !bytes.Equal(first, []byte("!!!")) {
		t.Fatalf("%q, %q", first, third)
	}
	check(t, b, told{held: 1, limit: 24, top: 11, has: places("xxxxxxxx--x")})
	put(t, b, bytesAt(8, "ij"))
	read(t, b, 9, "ijk")
}

func TestWhatIsReadIsNotTurnedByABuffer(t *testing.T) {
	b := bufferOf(t, 16, bytesAt(0, "abcdefgh"))
	first := b.Read(3)
	spare := append([]byte(nil), first[:cap(first)]...)
	put(t, b, bytesAt(0, "ABCDEFGHIJ"), bytesAt(3, "xyz"))
	read(t, b, 2, "de")
	put(t, b, lastAt(10, "K"))
	read(t, b, 16, "fghIJK")
	if !bytes.Equal(first[:cap(first)], spare) || string(first) != "abc" {
		t.Errorf("%q", first[:cap(first)])
	}
}
