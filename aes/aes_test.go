package aes_test

import (
	"bytes"
	"encoding/hex"
	"testing"

	"doorward/aes"
)

// text is so many bytes from a first one on, each one more than the one ahead.
func text(first byte, n int) []byte {
	b := make([]byte, n)
	for i := range b {
		b[i] = first + byte(i)
	}
	return b
}

// hexed are the bytes that a text of hexadecimal digits is of.
func hexed(t *testing.T, s string) []byte {
	t.Helper()
	b, err := hex.DecodeString(s)
	if err != nil {
		t.Fatal(err)
	}
	return b
}

// blockOf is a block, or a key, by its hexadecimal digits.
func blockOf(t *testing.T, s string) [16]byte {
	t.Helper()
	return [16]byte(hexed(t, s))
}

// examplesKey is the one that FIPS 197 expands, and SP 800-38A enciphers by.
const examplesKey = "2b7e151628aed2a6abf7158809cf4f3c"

// P8.1

// TestTimesOfTheStandard has the products that FIPS 197 gives.
func TestTimesOfTheStandard(t *testing.T) {
	for _, x := range []struct{ a, b, want byte }{
		{0x57, 0x83, 0xc1},
		{0x57, 0x13, 0xfe},
		{0x57, 0x01, 0x57},
		{0x57, 0x02, 0xae},
		{0x57, 0x04, 0x47},
		{0x57, 0x08, 0x8e},
		{0x57, 0x10, 0x07},
		{0x57, 0x20, 0x0e},
		{0x57, 0x40, 0x1c},
		{0x57, 0x80, 0x38},
		{0x80, 0x02, 0x1b},
		{0x53, 0xca, 0x01},
		{0xff, 0xff, 0x13},
		{0xff, 0x02, 0xe5},
		{0x03, 0xf6, 0x01},
	} {
		if got := aes.Times(x.a, x.b); got != x.want {
			t.Errorf("Times(%x, %x) = %x, want %x", x.a, x.b, got, x.want)
		}
		if got := aes.Times(x.b, x.a); got != x.want {
			t.Errorf("Times(%x, %x) = %x, want %x", x.b, x.a, got, x.want)
		}
	}
}

func TestTimesOfTheEdges(t *testing.T) {
	for i := range 256 {
		a := byte(i)
		if got := aes.Times(a, 0); got != 0 {
			t.Errorf("Times(%x, 0) = %x", a, got)
		}
		if got := aes.Times(0, a); got != 0 {
			t.Errorf("Times(0, %x) = %x", a, got)
		}
		if got := aes.Times(a, 1); got != a {
			t.Errorf("Times(%x, 1) = %x", a, got)
		}
		if got := aes.Times(1, a); got != a {
			t.Errorf("Times(1, %x) = %x", a, got)
		}
		want := a << 1
		if a >= 0x80 {
			want ^= 0x1b
		}
		if got := aes.Times(a, 2); got != want {
			t.Errorf("Times(%x, 2) = %x, want %x", a, got, want)
		}
		// By ff is by each power of 2.
		want = 0
		for bit := range 8 {
			want ^= aes.Times(a, 1<<bit)
		}
		if got := aes.Times(a, 0xff); got != want {
			t.Errorf("Times(%x, ff) = %x, want %x", a, got, want)
		}
	}
}

// TestTimesIsAFieldsProduct has what a product of polynomials can't be without.
func TestTimesIsAFieldsProduct(t *testing.T) {
	for a := range 256 {
		inverses := 0
		for b := range 256 {
			ab := aes.Times(byte(a), byte(b))
			if ab != aes.Times(byte(b), byte(a)) {
				t.Fatalf("Times(%x, %x) hangs on their order", a, b)
			}
			if ab == 1 {
				inverses++
			}
			for _, c := range []byte{1, 2, 3, 0x53, 0x80, 0x9c, 0xff} {
				if aes.Times(ab, c) != aes.Times(byte(a), aes.Times(byte(b), c)) {
					t.Fatalf("%x, %x, %x: another product in another order", a, b, c)
				}
				if aes.Times(byte(a), byte(b)^c) != ab^aes.Times(byte(a), c) {
					t.Fatalf("Times(%x, ..) doesn't go over the sum of %x and %x", a, b, c)
				}
			}
		}
		if want := min(a, 1); inverses != want {
			t.Errorf("%x has %d inverses, want %d", a, inverses, want)
		}
	}
}

// standardsBoxes are FIPS 197's table, a row a line.
const standardsBoxes = "637c777bf26b6fc53001672bfed7ab76" +
	"ca82c97dfa5947f0add4a2af9ca472c0" +
	"b7fd9326363ff7cc34a5e5f171d83115" +
	"04c723c31896059a071280e2eb27b275" +
	"09832c1a1b6e5aa0523bd6b329e32f84" +
	"53d100ed20fcb15b6acbbe394a4c58cf" +
	"d0efaafb434d338545f9027f503c9fa8" +
	"51a3408f929d38f5bcb6da2110fff3d2" +
	"cd0c13ec5f974417c4a77e3d645d1973" +
	"60814fdc222a908846eeb814de5e0bdb" +
	"e0323a0a4906245cc2d3ac629195e479" +
	"e7c8376d8dd54ea96c56f4ea657aae08" +
	"ba78252e1ca6b4c6e8dd741f4bbd8b8a" +
	"703eb5664803f60e613557b986c11d9e" +
	"e1f8981169d98e949b1e87e9ce5528df" +
	"8ca1890dbfe6426841992d0fb054bb16"

func TestBox(t *testing.T) {
	for a, want := range hexed(t, standardsBoxes) {
		if got := aes.Box(byte(a)); got != want {
			t.Errorf("Box(%x) = %x, want %x", a, got, want)
		}
	}
	for a, want := range map[byte]byte{0: 0x63, 1: 0x7c, 0x52: 0, 0x53: 0xed, 0xff: 0x16} {
		if got := aes.Box(a); got != want {
			t.Errorf("Box(%x) = %x, want %x", a, got, want)
		}
	}
}

// TestKeysOfTheStandard has the round keys that FIPS 197 expands (Appendix A.1), and those of its example (Appendix C.1).
func TestKeysOfTheStandard(t *testing.T) {
	for _, x := range []struct {
		key   string
		words string
	}{
		{examplesKey, examplesKey +
			"a0fafe1788542cb123a339392a6c7605" +
			"f2c295f27a96b9435935807a7359f67f" +
			"3d80477d4716fe3e1e237e446d7a883b" +
			"ef44a541a8525b7fb671253bdb0bad00" +
			"d4d1c6f87c839d87caf2b8bc11f915bc" +
			"6d88a37a110b3efddbf98641ca0093fd" +
			"4e54f70e5f5fc9f384a64fb24ea6dc4f" +
			"ead27321b58dbad2312bf5607f8d292f" +
			"ac7766f319fadc2128d12941575c006e" +
			"d014f9a8c9ee2589e13f0cc8b6630ca6"},
		{"000102030405060708090a0b0c0d0e0f", "000102030405060708090a0b0c0d0e0f" +
			"d6aa74fdd2af72fadaa678f1d6ab76fe" +
			"b692cf0b643dbdf1be9bc5006830b3fe" +
			"b6ff744ed2c2c9bf6c590cbf0469bf41" +
			"47f7f7bc95353e03f96c32bcfd058dfd" +
			"3caaa3e8a99f9deb50f3af57adf622aa" +
			"5e390f7df7a69296a7553dc10aa31f6b" +
			"14f9701ae35fe28c440adf4d4ea9c026" +
			"47438735a41c65b9e016baf4aebf7ad2" +
			"549932d1f08557681093ed9cbe2c974e" +
			"13111d7fe3944a17f307a78b4d2b30c5"},
	} {
		want := hexed(t, x.words)
		words := aes.Keys(blockOf(t, x.key))
		for i, word := range words {
			if !bytes.Equal(word[:], want[4*i:4*i+4]) {
				t.Errorf("key %s: word %d = %x, want %x", x.key, i, word, want[4*i:4*i+4])
			}
		}
	}
}

// edgeKeys are those with all bits the same, and others.
func edgeKeys(t *testing.T) [][16]byte {
	ones := [16]byte{}
	for i := range ones {
		ones[i] = 0xff
	}
	return [][16]byte{{}, ones, {15: 1}, {0: 0x80}, [16]byte(text(0, 16)), blockOf(t, examplesKey)}
}

// TestKeysAreOfTheWordsAhead has the words put together by Box, as the chapter's text has it.
func TestKeysAreOfTheWordsAhead(t *testing.T) {
	for _, key := range edgeKeys(t) {
		words := aes.Keys(key)
		for i, word := range words {
			want := [4]byte{}
			if i < 4 {
				copy(want[:], key[4*i:])
			} else {
				want = words[i-1]
				if i%4 == 0 {
					want = [4]byte{aes.Box(want[1]), aes.Box(want[2]), aes.Box(want[3]), aes.Box(want[0])}
					power := byte(1)
					for range i/4 - 1 {
						power = aes.Times(power, 2)
					}
					want[0] ^= power
				}
				for j := range want {
					want[j] ^= words[i-4][j]
				}
			}
			if word != want {
				t.Errorf("key %x: word %d = %x, want %x", key, i, word, want)
			}
		}
	}
}

// TestEncipherOfTheStandards has the blocks that FIPS 197, SP 800-38A, and RFC 9001 (Appendix A.2) encipher.
func TestEncipherOfTheStandards(t *testing.T) {
	for _, x := range []struct{ key, block, want string }{
		{examplesKey, "3243f6a8885a308d313198a2e0370734", "3925841d02dc09fbdc118597196a0b32"},
		{"000102030405060708090a0b0c0d0e0f", "00112233445566778899aabbccddeeff", "69c4e0d86a7b0430d8cdb78070b4c55a"},
		{examplesKey, "6bc1bee22e409f96e93d7e117393172a", "3ad77bb40d7a3660a89ecaf32466ef97"},
		{examplesKey, "ae2d8a571e03ac9c9eb76fac45af8e51", "f5d3d58503b9699de785895a96fdbaaf"},
		{examplesKey, "30c81c46a35ce411e5fbc1191a0a52ef", "43b1cd7f598ece23881b00e3ed030688"},
		{examplesKey, "f69f2445df4f9b17ad2b417be66c3710", "7b0c785e27e8ad3f8223207104725dd4"},
		{"9f50449e04a0e810283a1e9933adedd2", "d1b1c98dd7689fb8ec11d242b123dc9b", "437b9aec36be423400cdd115d9db3241"},
		{"00000000000000000000000000000000", "00000000000000000000000000000000", "66e94bd4ef8a2c3b884cfa59ca342b2e"},
	} {
		got := aes.Encipher(blockOf(t, x.key), blockOf(t, x.block))
		if got != blockOf(t, x.want) {
			t.Errorf("Encipher(%s, %s) = %x, want %s", x.key, x.block, got, x.want)
		}
	}
}

func TestEachBitOfKeyAndBlockTells(t *testing.T) {
	key, block := blockOf(t, examplesKey), [16]byte(text(0, 16))
	enciphered, words := aes.Encipher(key, block), aes.Keys(key)
	told := map[[16]byte]bool{enciphered: true}
	for i := range 16 {
		for bit := range 8 {
			other := key
			other[i] ^= 1 << bit
			told[aes.Encipher(other, block)] = true
			if aes.Keys(other) == words {
				t.Errorf("the bit %d of the byte %d of a key is nothing to Keys", bit, i)
			}
			other = block
			other[i] ^= 1 << bit
			told[aes.Encipher(key, other)] = true
		}
	}
	if len(told) != 257 {
		t.Errorf("257 keys and blocks are enciphered to %d blocks", len(told))
	}
	if aes.Encipher(key, block) != enciphered || key != blockOf(t, examplesKey) || block != [16]byte(text(0, 16)) {
		t.Error("what was handed in was changed, or is enciphered to another block")
	}
}

// P8.3

func TestEachBytesBoxIsItsOwn(t *testing.T) {
	whose := map[byte]byte{}
	for i := range 256 {
		a := byte(i)
		box := aes.Box(a)
		if other, ok := whose[box]; ok {
			t.Errorf("%x and %x have the box %x", other, a, box)
		}
		whose[box] = a
	}
	if len(whose) != 256 {
		t.Errorf("there are %d boxes", len(whose))
	}
}
