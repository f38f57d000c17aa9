package gcm_test

import (
	"bytes"
	"encoding/binary"
	"encoding/hex"
	"testing"

	"doorward/gcm"
)

// text is so many bytes from a first one on, each one more than the one ahead.
func text(first byte, n int) []byte {
	b := make([]byte, n)
	for i := range b {
		b[i] = first + byte(i)
	}
	return b
}

// hexed are the bytes that a text of hexadecimal digits is of.
func hexed(t *testing.T, s string) []byte {
	t.Helper()
	b, err := hex.DecodeString(s)
	if err != nil {
		t.Fatal(err)
	}
	return b
}

// blockOf is a block, or a key, by its hexadecimal digits.
func blockOf(t *testing.T, s string) [16]byte {
	t.Helper()
	return [16]byte(hexed(t, s))
}

// spoil writes to all of a slice's memory, its spare room included.
func spoil(b []byte) {
	b = b[:cap(b)]
	for i := range b {
		b[i] ^= 0xa5
	}
}

// room stands behind what is handed in.
var room = bytes.Repeat([]byte{0x77}, 200)

// withRoom is a copy of bytes with spare room behind them, and all that memory.
func withRoom(b []byte) (copied, memory []byte) {
	memory = append(bytes.Clone(b), room...)
	return memory[:len(b)], memory
}

// isUnchanged fails the test, if memory that was handed in isn't as it was.
func isUnchanged(t *testing.T, what string, memory, b []byte) {
	t.Helper()
	if !bytes.Equal(memory, append(bytes.Clone(b), room...)) {
		t.Errorf("%s: what was handed in is %x, was %x", what, memory, b)
	}
}

// edges are how many bytes texts, and more of them, have, about a block's end; and longer ones.
var edges = []int{0, 1, 2, 15, 16, 17, 31, 32, 33, 47, 48, 49, 100}

// plus is the sum of two polynomials, bit by bit.
func plus(a, b [16]byte) [16]byte {
	for i := range a {
		a[i] ^= b[i]
	}
	return a
}

// power is x to so high a power, of 0 to 127.
func power(n int) [16]byte {
	var b [16]byte
	b[n/8] = 0x80 >> (n % 8)
	return b
}

// one is x to the power 0.
var one = power(0)

// drawnBlocks are the edges of blocks, and some that have bits here and there.
func drawnBlocks(t *testing.T) [][16]byte {
	ones := [16]byte(bytes.Repeat([]byte{0xff}, 16))
	return [][16]byte{{}, one, power(1), power(63), power(64), power(127), ones, [16]byte(text(0, 16)), [16]byte(text(0xf8, 16)),
		blockOf(t, papersBlock), blockOf(t, zerosBlock), blockOf(t, "25629347589242761d31f826ba4b757b")}
}

// The blocks of bytes 0 enciphered, by the key of AES-GCM's own paper, and by the key 0.
const (
	papersBlock = "b83b533708bf535d0aa6e52980d53b78"
	zerosBlock  = "66e94bd4ef8a2c3b884cfa59ca342b2e"
)

// P9.1

// TestTimesOfThePapers has the products that AES-GCM's own paper gives step by step (its cases 2 and 3), and RFC 8452 (Appendix A); and what of the highest power goes over.
func TestTimesOfThePapers(t *testing.T) {
	for _, x := range []struct{ a, b, want string }{
		{"0388dace60b6a392f328c2b971b2fe78", zerosBlock, "5e2ec746917062882c85b0685353deb7"},
		{"5e2ec746917062882c85b0685353de37", zerosBlock, "f38cbb1ad69223dcc3457ae5b6b0f885"},
		{"42831ec2217774244b7221b784d0d49c", papersBlock, "59ed3f2bb1a0aaa07c9f56c6a504647b"},
		{"40000000000000000000000000000000", "01000000000000000000000000000000", "00800000000000000000000000000000"},
		{"40000000000000000000000000000000", "9c98c04df9387ded828175a92ba652d8", "4e4c6026fc9c3ef6c140bad495d3296c"},
		{"40000000000000000000000000000000", "00000000000000000000000000000001", "e1000000000000000000000000000000"},
		{"00000000000000000000000000000001", "00000000000000000000000000000001", "e6080000000000000000000000000003"},
	} {
		a, b, want := blockOf(t, x.a), blockOf(t, x.b), blockOf(t, x.want)
		if got := gcm.Times(a, b); got != want {
			t.Errorf("Times(%s, %s) = %x, want %s", x.a, x.b, got, x.want)
		}
		if got := gcm.Times(b, a); got != want {
			t.Errorf("Times(%s, %s) = %x, want %s", x.b, x.a, got, x.want)
		}
	}
}

func TestTimesOfTheEdges(t *testing.T) {
	for _, a := range drawnBlocks(t) {
		if got := gcm.Times(a, [16]byte{}); got != ([16]byte{}) {
			t.Errorf("Times(%x, 0) = %x", a, got)
		}
		if got := gcm.Times([16]byte{}, a); got != ([16]byte{}) {
			t.Errorf("Times(0, %x) = %x", a, got)
		}
		if got := gcm.Times(a, one); got != a {
			t.Errorf("Times(%x, 1) = %x", a, got)
		}
		if got := gcm.Times(one, a); got != a {
			t.Errorf("Times(1, %x) = %x", a, got)
		}
	}
}

// TestTimesOfEachTwoPowers has x to all powers, times x to all powers: what is more than 127 goes to four of 128 less.
func TestTimesOfEachTwoPowers(t *testing.T) {
	// The greatest product has the power 254: 126 and 7 more go over once again.
	powers := make([][16]byte, 255)
	for n := range powers {
		if n < 128 {
			powers[n] = power(n)
			continue
		}
		for _, further := range []int{0, 1, 2, 7} {
			powers[n] = plus(powers[n], powers[n-128+further])
		}
	}
	for i := range 128 {
		for j := range 128 {
			if got := gcm.Times(power(i), power(j)); got != powers[i+j] {
				t.Errorf("x to the power %d times x to the power %d = %x, want %x", i, j, got, powers[i+j])
			}
		}
	}
}

// TestTimesIsOfEachBit has a product put together of those by each bit.
func TestTimesIsOfEachBit(t *testing.T) {
	for _, a := range drawnBlocks(t) {
		for _, b := range drawnBlocks(t) {
			var want [16]byte
			for n := range 128 {
				if b[n/8]&(0x80>>(n%8)) != 0 {
					want = plus(want, gcm.Times(a, power(n)))
				}
			}
			if got := gcm.Times(a, b); got != want {
				t.Errorf("Times(%x, %x) = %x, want %x", a, b, got, want)
			}
		}
	}
}

// TestTimesIsAFieldsProduct has that an order is nothing to a product of three, and that what is multiplied by itself 128 times over is itself.
func TestTimesIsAFieldsProduct(t *testing.T) {
	for _, a := range drawnBlocks(t) {
		for _, b := range drawnBlocks(t) {
			for _, c := range drawnBlocks(t) {
				if gcm.Times(gcm.Times(a, b), c) != gcm.Times(a, gcm.Times(b, c)) {
					t.Fatalf("%x, %x, %x: another product in another order", a, b, c)
				}
			}
		}
		square := a
		for range 128 {
			square = gcm.Times(square, square)
		}
		if square != a {
			t.Errorf("%x to the power of 2 to the power 128 = %x", a, square)
		}
	}
}

// TestSumOfThePaper has the sums that AES-GCM's own paper gives (its cases 1 to 4).
func TestSumOfThePaper(t *testing.T) {
	for _, x := range []struct{ h, more, text, want string }{
		{zerosBlock, "", "", "00000000000000000000000000000000"},
		{zerosBlock, "", "0388dace60b6a392f328c2b971b2fe78", "f38cbb1ad69223dcc3457ae5b6b0f885"},
		{papersBlock, "", papersLongEnciphered, "7f1b32b81b820d02614f8895ac1d4eac"},
		{papersBlock, papersMore, papersEnciphered, "698e57f70e6ecc7fd9463b7260a9ae5f"},
	} {
		if got := gcm.Sum(blockOf(t, x.h), hexed(t, x.more), hexed(t, x.text)); got != blockOf(t, x.want) {
			t.Errorf("Sum(%s, %s, %s) = %x, want %s", x.h, x.more, x.text, got, x.want)
		}
	}
}

// TestProductsOfASumsSteps has the two blocks that RFC 8452 adds up (Appendix A), without the block of their bits.
func TestProductsOfASumsSteps(t *testing.T) {
	h := blockOf(t, "25629347589242761d31f826ba4b757b")
	first := gcm.Times(blockOf(t, "4f4f95668c83dfb6401762bb2d01a262"), h)
	got := gcm.Times(plus(first, blockOf(t, "d1a24ddd2721d006bbe45f20d3c9f362")), h)
	if got != blockOf(t, "bd9b3997046731fb96251b91f9c99d7a") {
		t.Errorf("both blocks come to %x", got)
	}
}

func TestSumOfNothing(t *testing.T) {
	for _, h := range drawnBlocks(t) {
		for _, none := range [][]byte{nil, {}} {
			if got := gcm.Sum(h, none, none); got != ([16]byte{}) {
				t.Errorf("Sum(%x) of nothing = %x", h, got)
			}
		}
	}
}

func TestSumByZeroIsZero(t *testing.T) {
	for _, n := range edges {
		if got := gcm.Sum([16]byte{}, text(3, n), text(7, n)); got != ([16]byte{}) {
			t.Errorf("Sum(0) of %d bytes = %x", n, got)
		}
	}
}

// TestSumIsOfProducts has sums put together by Times, as the chapter's text has it.
func TestSumIsOfProducts(t *testing.T) {
	for _, h := range drawnBlocks(t) {
		for _, size := range edges {
			for _, n := range edges {
				var blocks [][16]byte
				for _, b := range [][]byte{text(3, size), text(7, n)} {
					for i := 0; i < len(b); i += 16 {
						var block [16]byte
						copy(block[:], b[i:])
						blocks = append(blocks, block)
					}
				}
				var last [16]byte
				binary.BigEndian.PutUint64(last[:8], uint64(8*size))
				binary.BigEndian.PutUint64(last[8:], uint64(8*n))
				var want [16]byte
				for _, block := range append(blocks, last) {
					want = gcm.Times(plus(want, block), h)
				}
				if got := gcm.Sum(h, text(3, size), text(7, n)); got != want {
					t.Errorf("h %x, more of %d bytes, a text of %d: Sum = %x, want %x", h, size, n, got, want)
				}
			}
		}
	}
}

// TestSumByOne: by 1 a sum is just that of all the blocks, so it is seen where each byte comes to.
func TestSumByOne(t *testing.T) {
	for _, x := range []struct {
		more, text []byte
		want       string
	}{
		{[]byte{0xab}, nil, "ab000000000000080000000000000000"},
		{nil, []byte{0xab}, "ab000000000000000000000000000008"},
		{text(1, 15), nil, "0102030405060770090a0b0c0d0e0f00"},
		{nil, text(1, 16), "0102030405060708090a0b0c0d0e0f90"},
		{text(1, 17), nil, "1002030405060780090a0b0c0d0e0f10"},
		{nil, text(0x10, 32), "30303030303030303030303030303130"},
		{[]byte{1}, []byte{0x10, 0x20}, "11200000000000080000000000000010"},
		{make([]byte, 32), nil, "00000000000001000000000000000000"},
		{nil, make([]byte, 8192), "00000000000000000000000000010000"},
	} {
		if got := gcm.Sum(one, x.more, x.text); got != blockOf(t, x.want) {
			t.Errorf("Sum(1, %x, %x) = %x, want %s", x.more, x.text, got, x.want)
		}
	}
}

// TestSumTellsHowItIsParted: where more ends, and what is filled up, tells.
func TestSumTellsHowItIsParted(t *testing.T) {
	h := blockOf(t, papersBlock)
	for _, all := range [][]byte{text(9, 49), make([]byte, 49)} {
		told := map[[16]byte]int{}
		for end := range len(all) + 1 {
			for parted := range end + 1 {
				told[gcm.Sum(h, all[:parted], all[parted:end])]++
			}
		}
		if want := 50 * 51 / 2; len(told) != want {
			t.Errorf("%d more texts and texts have %d sums", want, len(told))
		}
	}
}

func TestEachBitTellsInASum(t *testing.T) {
	h, more, b := blockOf(t, papersBlock), text(3, 20), text(7, 33)
	sum := gcm.Sum(h, more, b)
	for _, part := range [][]byte{more, b, h[:]} {
		for bit := range 8 * len(part) {
			part[bit/8] ^= 1 << (bit % 8)
			if gcm.Sum(h, more, b) == sum {
				t.Errorf("the bit %d of %x is nothing to Sum", bit, part)
			}
			part[bit/8] ^= 1 << (bit % 8)
		}
	}
}

// TestSumOfMoreBitsThanFourBytesTell has texts of bytes 0 alone: nothing but the last block is left of them.
func TestSumOfMoreBitsThanFourBytesTell(t *testing.T) {
	h, zeros := blockOf(t, papersBlock), make([]byte, 1<<29+1)
	want := gcm.Times(blockOf(t, "00000001000000080000000100000000"), h)
	if got := gcm.Sum(h, zeros, zeros[:1<<29]); got != want {
		t.Errorf("more of 2^29 + 1 bytes 0, a text of 2^29: Sum = %x, want %x", got, want)
	}
}

func TestSumAndTimesChangeNothing(t *testing.T) {
	h := blockOf(t, papersBlock)
	for _, size := range edges {
		for _, n := range edges {
			more, moreMemory := withRoom(text(3, size))
			b, memory := withRoom(text(7, n))
			sum := gcm.Sum(h, more, b)
			isUnchanged(t, "more", moreMemory, text(3, size))
			isUnchanged(t, "a text", memory, text(7, n))
			// What stands in the spare room is nothing to a sum.
			if sum != gcm.Sum(h, text(3, size), text(7, n)) {
				t.Errorf("more of %d bytes, a text of %d: another sum in other memory", size, n)
			}
		}
	}
	a, b := h, [16]byte(text(3, 16))
	first := gcm.Times(a, b)
	if a != blockOf(t, papersBlock) || b != [16]byte(text(3, 16)) || h != a || gcm.Times(a, b) != first {
		t.Error("what was handed in was changed, or a product is another one")
	}
}

func TestMoreAndTextInTheSameMemory(t *testing.T) {
	h := blockOf(t, papersBlock)
	for _, n := range edges {
		b := text(9, n)
		if gcm.Sum(h, b, b) != gcm.Sum(h, text(9, n), text(9, n)) {
			t.Errorf("%d bytes: another sum of the same memory", n)
		}
	}
}

// P9.3

func TestTimesIsCommutative(t *testing.T) {
	for _, a := range drawnBlocks(t) {
		for _, b := range drawnBlocks(t) {
			if gcm.Times(a, b) != gcm.Times(b, a) {
				t.Errorf("Times(%x, %x) hangs on their order", a, b)
			}
		}
	}
}

func TestTimesGoesOverSums(t *testing.T) {
	for _, a := range drawnBlocks(t) {
		for _, b := range drawnBlocks(t) {
			for _, c := range drawnBlocks(t) {
				if gcm.Times(a, plus(b, c)) != plus(gcm.Times(a, b), gcm.Times(a, c)) {
					t.Fatalf("Times(%x, ..) doesn't go over the sum of %x and %x", a, b, c)
				}
				if gcm.Times(plus(b, c), a) != plus(gcm.Times(b, a), gcm.Times(c, a)) {
					t.Fatalf("Times(.., %x) doesn't go over the sum of %x and %x", a, b, c)
				}
			}
		}
	}
}
