package gcm_test

import (
	"bytes"
	libraryAes "crypto/aes"
	"crypto/cipher"
	"math/big"
	"math/rand"
	"testing"

	"doorward/api"
	"doorward/gcm"
)

// What follows holds the calls against the library's, which the program itself doesn't use, and against the chapter said once more in another way.

// numberOf is the polynomial whose factor of x to the power n is the bit n.
func numberOf(block [16]byte) *big.Int {
	n := new(big.Int)
	for i := range 128 {
		n.SetBit(n, i, uint(block[i/8]>>(7-i%8)&1))
	}
	return n
}

// productAgain is a product by all the polynomial's bits, and what is left of them modulo x^128 + x^7 + x^2 + x + 1.
func productAgain(a, b [16]byte) [16]byte {
	all, x, y := new(big.Int), numberOf(a), numberOf(b)
	for i := range 128 {
		if y.Bit(i) == 1 {
			all.Xor(all, new(big.Int).Lsh(x, uint(i)))
		}
	}
	modulus := new(big.Int).SetBit(big.NewInt(0x87), 128, 1)
	for i := all.BitLen() - 1; i >= 128; i-- {
		if all.Bit(i) == 1 {
			all.Xor(all, new(big.Int).Lsh(modulus, uint(i-128)))
		}
	}
	var block [16]byte
	for i := range 128 {
		block[i/8] |= byte(all.Bit(i)) << (7 - i%8)
	}
	return block
}

// sumAgain is a sum of all blocks at once: each times H to the power of how many there are from it on.
func sumAgain(h [16]byte, more, text []byte) [16]byte {
	var all []byte
	for _, b := range [][]byte{more, text} {
		all = append(all, b...)
		all = append(all, make([]byte, (16-len(b)%16)%16)...)
	}
	for _, b := range [][]byte{more, text} {
		all = append(all, big.NewInt(int64(8*len(b))).FillBytes(make([]byte, 8))...)
	}
	var sum [16]byte
	high := h
	for end := len(all); end > 0; end -= 16 {
		sum = plus(sum, productAgain([16]byte(all[end-16:end]), high))
		high = productAgain(high, h)
	}
	return sum
}

// isAddedAsAgain fails the test, if a product, or a sum, is another one.
func isAddedAsAgain(t *testing.T, a, b [16]byte, more, text []byte) {
	t.Helper()
	if got, want := gcm.Times(a, b), productAgain(a, b); got != want {
		t.Fatalf("Times(%x, %x) = %x, want %x", a, b, got, want)
	}
	if got, want := gcm.Sum(a, more, text), sumAgain(a, more, text); got != want {
		t.Fatalf("Sum(%x, %x, %x) = %x, want %x", a, more, text, got, want)
	}
}

// library is the library's, by a key.
func library(t *testing.T, key [16]byte) cipher.AEAD {
	t.Helper()
	c, err := libraryAes.NewCipher(key[:])
	if err != nil {
		t.Fatal(err)
	}
	g, err := cipher.NewGCM(c)
	if err != nil {
		t.Fatal(err)
	}
	return g
}

// isSealedAsInTheLibrary fails the test, if a text is sealed to something else, or that isn't opened.
func isSealedAsInTheLibrary(t *testing.T, key [16]byte, nonce [12]byte, more, text []byte) {
	t.Helper()
	want := library(t, key).Seal(nil, nonce[:], text, more)
	if got := gcm.Seal(key, nonce, more, text); !bytes.Equal(got, want) {
		t.Fatalf("Seal(%x, %x, %x, %x) = %x, want %x", key, nonce, more, text, got, want)
	}
	if got, e := gcm.Open(key, nonce, more, want); e != api.OK || !bytes.Equal(got, text) {
		t.Fatalf("Open(%x, %x, %x, %x) = %x, %d, want %x", key, nonce, more, want, got, e, text)
	}
}

// isOpenedAsInTheLibrary fails the test, if bytes are opened that aren't to be, or aren't, that are.
func isOpenedAsInTheLibrary(t *testing.T, key [16]byte, nonce [12]byte, more, sealed []byte) {
	t.Helper()
	want, err := library(t, key).Open(nil, nonce[:], sealed, more)
	wantError := api.OK
	if len(sealed) < 16 {
		wantError = api.ErrShort
	} else if err != nil {
		wantError = api.ErrAuth
	}
	if got, e := gcm.Open(key, nonce, more, sealed); e != wantError || !bytes.Equal(got, want) {
		t.Fatalf("Open(%x, %x, %x, %x) = %x, %d, want %x, %d", key, nonce, more, sealed, got, e, want, wantError)
	}
}

func TestSumsOfTheEdgesAgain(t *testing.T) {
	for _, h := range drawnBlocks(t) {
		for _, size := range []int{0, 1, 15, 16, 17, 32} {
			for _, n := range []int{0, 1, 15, 16, 17, 32} {
				isAddedAsAgain(t, h, power(n), text(3, size), text(7, n))
			}
		}
	}
}

func TestDrawnBlocksAgain(t *testing.T) {
	r := rand.New(rand.NewSource(9))
	for range 1000 {
		var a, b [16]byte
		r.Read(a[:])
		r.Read(b[:])
		more, text := make([]byte, r.Intn(200)>>r.Intn(8)), make([]byte, r.Intn(200)>>r.Intn(8))
		r.Read(more)
		r.Read(text)
		isAddedAsAgain(t, a, b, more, text)
	}
}

func TestDrawnTextsAsInTheLibrary(t *testing.T) {
	r := rand.New(rand.NewSource(10))
	for range 3000 {
		var key [16]byte
		var nonce [12]byte
		r.Read(key[:])
		r.Read(nonce[:])
		more, text := make([]byte, r.Intn(2000)>>r.Intn(11)), make([]byte, r.Intn(2000)>>r.Intn(11))
		r.Read(more)
		r.Read(text)
		isSealedAsInTheLibrary(t, key, nonce, more, text)
		isOpenedAsInTheLibrary(t, key, nonce, more, text)
	}
}

// TestLongTextsAsInTheLibrary has texts of so many blocks that more than two bytes count them.
func TestLongTextsAsInTheLibrary(t *testing.T) {
	key, nonce := blockOf(t, papersKey), nonceOf(t, papersNonce)
	for _, n := range []int{16 * 253, 16*254 + 1, 16*65533 + 15, 16*66000 + 3} {
		isSealedAsInTheLibrary(t, key, nonce, nil, text(5, n))
		isSealedAsInTheLibrary(t, key, nonce, text(5, n), text(7, 33))
	}
}

func FuzzGcm(f *testing.F) {
	for _, n := range edges {
		f.Add(text(3, 16), text(7, 12), text(9, n), text(5, 100-n))
	}
	f.Add([]byte{}, []byte{}, []byte{}, []byte{0x58, 0xe2, 0xfc, 0xce, 0xfa, 0x7e, 0x30, 0x61, 0x36, 0x7f, 0x1d, 0x57, 0xa4, 0xe7, 0x45, 0x5a})
	f.Fuzz(func(t *testing.T, key, nonce, more, text []byte) {
		var k, x [16]byte
		copy(k[:], key)
		copy(x[:], nonce)
		isSealedAsInTheLibrary(t, k, [12]byte(x[:]), more, text)
		isOpenedAsInTheLibrary(t, k, [12]byte(x[:]), more, text)
		isAddedAsAgain(t, k, x, more[:min(len(more), 300)], text[:min(len(text), 300)])
	})
}
