package aes_test

import (
	"bytes"
	libraryAes "crypto/aes"
	"encoding/binary"
	"math/rand"
	"testing"

	"doorward/aes"
)

// What follows holds the calls against the library's, which the program itself doesn't use, and against the chapter said once more in another way.

// productAgain is a product by all the polynomial's bits, and what is left of them modulo 11b.
func productAgain(a, b byte) byte {
	all := 0
	for bit := range 8 {
		if b>>bit&1 == 1 {
			all ^= int(a) << bit
		}
	}
	for bit := 15; bit >= 8; bit-- {
		if all>>bit&1 == 1 {
			all ^= 0x11b << (bit - 8)
		}
	}
	return byte(all)
}

// boxAgain is a box, bit by bit, of an inverse that is looked for.
func boxAgain(a byte) byte {
	inverse := 0
	for x := range 256 {
		if productAgain(a, byte(x)) == 1 {
			inverse = x
		}
	}
	box := 0
	for bit := range 8 {
		sum := 0x63 >> bit
		for turn := range 5 {
			sum ^= inverse >> ((bit + 8 - turn) % 8)
		}
		box |= sum & 1 << bit
	}
	return byte(box)
}

// encipherAgain is a block enciphered by the library.
func encipherAgain(t *testing.T, key, block [16]byte) [16]byte {
	t.Helper()
	c, err := libraryAes.NewCipher(key[:])
	if err != nil {
		t.Fatal(err)
	}
	c.Encrypt(block[:], block[:])
	return block
}

// streamAgain is a stream of the library's blocks. The library's own way to count goes over more than four bytes.
func streamAgain(t *testing.T, key, first [16]byte, b []byte) []byte {
	t.Helper()
	out := bytes.Clone(b)
	for i := 0; i < len(out); i += 16 {
		x := encipherAgain(t, key, first)
		for j := i; j < min(i+16, len(out)); j++ {
			out[j] ^= x[j-i]
		}
		binary.BigEndian.PutUint32(first[12:], binary.BigEndian.Uint32(first[12:])+1)
	}
	return out
}

// isAsInTheLibrary fails the test, if a block is enciphered to another one, or a stream is another one.
func isAsInTheLibrary(t *testing.T, key, first [16]byte, b []byte) {
	t.Helper()
	if got, want := aes.Encipher(key, first), encipherAgain(t, key, first); got != want {
		t.Fatalf("Encipher(%x, %x) = %x, want %x", key, first, got, want)
	}
	if got, want := aes.Stream(key, first, b), streamAgain(t, key, first, b); !bytes.Equal(got, want) {
		t.Fatalf("Stream(%x, %x, %x) = %x, want %x", key, first, b, got, want)
	}
}

func TestEachProductAndBoxAgain(t *testing.T) {
	for i := range 256 {
		a := byte(i)
		for j := range 256 {
			b := byte(j)
			if got, want := aes.Times(a, b), productAgain(a, b); got != want {
				t.Errorf("Times(%x, %x) = %x, want %x", a, b, got, want)
			}
		}
		if got, want := aes.Box(a), boxAgain(a); got != want {
			t.Errorf("Box(%x) = %x, want %x", a, got, want)
		}
	}
}

func TestDrawnBlocksAsInTheLibrary(t *testing.T) {
	r := rand.New(rand.NewSource(8))
	for range 3000 {
		var key, first [16]byte
		r.Read(key[:])
		r.Read(first[:])
		if r.Intn(2) == 0 {
			copy(first[12:], []byte{0xff, 0xff, 0xff, byte(r.Intn(256))})
		}
		b := make([]byte, r.Intn(2000)>>r.Intn(8))
		r.Read(b)
		isAsInTheLibrary(t, key, first, b)
	}
}

// TestLongTextAsInTheLibrary has a text of so many blocks that the number goes over more than one byte, and over its end.
func TestLongTextAsInTheLibrary(t *testing.T) {
	key := [16]byte(text(0x11, 16))
	for _, first := range [][16]byte{{}, {12: 0xff, 13: 0xfe, 14: 0xff, 15: 0xfe}, {12: 0xff, 13: 0xff, 14: 0xff}} {
		isAsInTheLibrary(t, key, first, text(5, 16*66000+3))
	}
}

func FuzzAes(f *testing.F) {
	for _, n := range edges {
		f.Add(text(3, 16), text(7, 16), text(9, n))
	}
	f.Add([]byte{}, bytes.Repeat([]byte{0xff}, 16), text(9, 40))
	f.Fuzz(func(t *testing.T, key, first, b []byte) {
		var k, x [16]byte
		copy(k[:], key)
		copy(x[:], first)
		isAsInTheLibrary(t, k, x, b)
	})
}
