package aes_test

import (
	"bytes"
	"encoding/binary"
	"testing"

	"doorward/aes"
)

// spoil writes to all of a slice's memory, its spare room included.
func spoil(b []byte) {
	b = b[:cap(b)]
	for i := range b {
		b[i] ^= 0xa5
	}
}

// room stands behind what is handed in.
var room = bytes.Repeat([]byte{0x77}, 200)

// withRoom is a copy of bytes with spare room behind them, and all that memory.
func withRoom(b []byte) (copied, memory []byte) {
	memory = append(bytes.Clone(b), room...)
	return memory[:len(b)], memory
}

// edges are the chapter's: how many bytes a text has, about a block's end; and longer ones.
var edges = []int{0, 1, 2, 15, 16, 17, 31, 32, 33, 47, 48, 49, 100, 256, 1200}

// firsts are first blocks by their last four bytes: the number's edges, also those of each of its bytes.
func firsts() [][16]byte {
	var l [][16]byte
	for _, ahead := range []byte{0, 0x5a, 0xff} {
		for _, number := range []uint32{0, 1, 2, 0xfe, 0xff, 0x100, 0xfffe, 0xffff, 0x10000, 0xfffffe, 0xffffff, 0x1000000, 0x7fffffff, 0x80000000, 0xfffffffd, 0xfffffffe, 0xffffffff} {
			var first [16]byte
			for i := range 12 {
				first[i] = ahead
			}
			binary.BigEndian.PutUint32(first[12:], number)
			l = append(l, first)
		}
	}
	return l
}

// P8.2

// TestStreamOfTheStandard has the text that SP 800-38A enciphers by counting (F.5.1).
func TestStreamOfTheStandard(t *testing.T) {
	key, first := blockOf(t, examplesKey), blockOf(t, "f0f1f2f3f4f5f6f7f8f9fafbfcfdfeff")
	plain := hexed(t, "6bc1bee22e409f96e93d7e117393172a"+
		"ae2d8a571e03ac9c9eb76fac45af8e51"+
		"30c81c46a35ce411e5fbc1191a0a52ef"+
		"f69f2445df4f9b17ad2b417be66c3710")
	want := hexed(t, "874d6191b620e3261bef6864990db6ce"+
		"9806f66b7970fdff8617187bb9fffdff"+
		"5ae4df3edbd5d35e5b4f09020db03eab"+
		"1e031dda2fbe03d1792170a0f3009cee")
	for n := range len(plain) + 1 {
		if got := aes.Stream(key, first, plain[:n]); !bytes.Equal(got, want[:n]) {
			t.Errorf("%d bytes: Stream = %x, want %x", n, got, want[:n])
		}
	}
}

// TestStreamIsOfEncipheredBlocks has a text's bytes put together by Encipher, as the chapter's text has it.
func TestStreamIsOfEncipheredBlocks(t *testing.T) {
	key := blockOf(t, examplesKey)
	for _, first := range firsts() {
		for _, n := range edges {
			b := text(9, n)
			number := binary.BigEndian.Uint32(first[12:])
			want := bytes.Clone(b)
			for i := range want {
				counted := first
				binary.BigEndian.PutUint32(counted[12:], number+uint32(i/16))
				want[i] ^= aes.Encipher(key, counted)[i%16]
			}
			if got := aes.Stream(key, first, b); !bytes.Equal(got, want) {
				t.Errorf("first %x, %d bytes: Stream = %x, want %x", first, n, got, want)
			}
		}
	}
}

func TestTheNumberBehindTheGreatestIsZero(t *testing.T) {
	key := [16]byte(text(0x30, 16))
	first := [16]byte(text(0xf0, 16))
	copy(first[12:], []byte{0xff, 0xff, 0xff, 0xff})
	second, third := first, first
	copy(second[12:], []byte{0, 0, 0, 0})
	copy(third[12:], []byte{0, 0, 0, 1})
	got := aes.Stream(key, first, make([]byte, 48))
	for i, counted := range [][16]byte{first, second, third} {
		if want := aes.Encipher(key, counted); !bytes.Equal(got[16*i:16*i+16], want[:]) {
			t.Errorf("block %d: %x, want %x", i, got[16*i:16*i+16], want)
		}
	}
}

func TestStreamIsAsLongAsTheText(t *testing.T) {
	for n := range 70 {
		if got := aes.Stream([16]byte{}, [16]byte{}, make([]byte, n)); len(got) != n {
			t.Errorf("%d bytes: Stream has %d", n, len(got))
		}
	}
	for _, none := range [][]byte{nil, {}} {
		if got := aes.Stream([16]byte{}, [16]byte{}, none); len(got) != 0 {
			t.Errorf("Stream of no byte = %x", got)
		}
	}
}

func TestStreamChangesNothing(t *testing.T) {
	key, first := blockOf(t, examplesKey), [16]byte(text(0xf8, 16))
	for _, n := range edges {
		b, memory := withRoom(text(7, n))
		got := aes.Stream(key, first, b)
		if !bytes.Equal(memory, append(text(7, n), room...)) {
			t.Errorf("%d bytes: what was handed in is %x", n, memory)
		}
		if key != blockOf(t, examplesKey) || first != [16]byte(text(0xf8, 16)) {
			t.Fatal("a key, or a first block, was changed")
		}
		// What becomes of the text is nothing to the answer.
		spoil(b)
		if !bytes.Equal(got, aes.Stream(key, first, text(7, n))) {
			t.Errorf("%d bytes: another answer in other memory", n)
		}
	}
}

func TestStreamAnswersNewMemory(t *testing.T) {
	key, first := blockOf(t, examplesKey), [16]byte(text(0xf8, 16))
	for _, n := range edges {
		b, memory := withRoom(text(7, n))
		one, two := aes.Stream(key, first, b), aes.Stream(key, first, b)
		want := bytes.Clone(two)
		spoil(one)
		if !bytes.Equal(two, want) || !bytes.Equal(aes.Stream(key, first, b), want) {
			t.Errorf("%d bytes: an answer hangs on what became of another one", n)
		}
		if !bytes.Equal(memory, append(text(7, n), room...)) {
			t.Errorf("%d bytes: an answer stands in the text's memory", n)
		}
	}
}

// P8.3

func TestStreamOfWhatStreamMadeIsTheText(t *testing.T) {
	for _, key := range edgeKeys(t) {
		for _, first := range firsts() {
			for _, n := range edges {
				b := text(9, n)
				if got := aes.Stream(key, first, aes.Stream(key, first, b)); !bytes.Equal(got, b) {
					t.Errorf("key %x, first %x: of %x comes %x", key, first, b, got)
				}
			}
		}
	}
}

// TestAnotherKeyOrFirstBlockDoesNotOpen: of what Stream made by one, another one makes something else.
func TestAnotherKeyOrFirstBlockDoesNotOpen(t *testing.T) {
	key, first := blockOf(t, examplesKey), [16]byte(text(3, 16))
	b := text(9, 33)
	made := aes.Stream(key, first, b)
	for i := range 16 {
		otherKey, otherFirst := key, first
		otherKey[i] ^= 1
		otherFirst[i] ^= 0x10
		if bytes.Equal(aes.Stream(otherKey, first, made), b) {
			t.Errorf("the byte %d of a key is nothing to Stream", i)
		}
		if bytes.Equal(aes.Stream(key, otherFirst, made), b) {
			t.Errorf("the byte %d of a first block is nothing to Stream", i)
		}
	}
}
