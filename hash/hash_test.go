package hash_test

import (
	"bytes"
	"encoding/hex"
	"strings"
	"testing"

	"doorward/api"
	"doorward/hash"
)

// text is so many bytes from a first one on, each one more than the one ahead.
func text(first byte, n int) []byte {
	b := make([]byte, n)
	for i := range b {
		b[i] = first + byte(i)
	}
	return b
}

// same is so many times the same byte.
func same(b byte, n int) []byte { return bytes.Repeat([]byte{b}, n) }

// hexed are the bytes that a text of hexadecimal digits is of.
func hexed(t *testing.T, s string) []byte {
	t.Helper()
	b, err := hex.DecodeString(s)
	if err != nil {
		t.Fatal(err)
	}
	return b
}

// spoil writes to all of a slice's memory, its spare room included.
func spoil(b []byte) {
	b = b[:cap(b)]
	for i := range b {
		b[i] ^= 0xa5
	}
}

// withRoom is a copy of bytes with spare room behind them, and all that memory.
func withRoom(b []byte) (copied, memory []byte) {
	memory = append(bytes.Clone(b), same(0x77, 200)...)
	return memory[:len(b)], memory
}

// isUnchanged fails the test, if memory that was handed in isn't as it was.
func isUnchanged(t *testing.T, what string, memory, b []byte) {
	t.Helper()
	if !bytes.Equal(memory, append(bytes.Clone(b), same(0x77, 200)...)) {
		t.Errorf("%s: what was handed in is %x, was %x", what, memory, b)
	}
}

// edges are the chapter's: how many bytes a text has, about the places where the count takes one block more.
var edges = []int{0, 1, 55, 56, 63, 64, 65, 119, 120, 128}

// P7.1

// sums fails the test, if a text's digest is another one.
func sums(t *testing.T, what string, b []byte, want string) {
	t.Helper()
	if got := hash.Sum(b); !bytes.Equal(got[:], hexed(t, want)) {
		t.Errorf("%s: Sum = %x, want %s", what, got, want)
	}
}

// TestSumOfTheStandardsTexts has the digests that FIPS 180-4's examples give.
func TestSumOfTheStandardsTexts(t *testing.T) {
	for _, x := range []struct{ text, want string }{
		{"", "e3b0c44298fc1c149afbf4c8996fb92427ae41e4649b934ca495991b7852b855"},
		{"abc", "ba7816bf8f01cfea414140de5dae2223b00361a396177a9cb410ff61f20015ad"},
		{"abcdbcdecdefdefgefghfghighijhijkijkljklmklmnlmnomnopnopq", "248d6a61d20638b8e5c026930c3e6039a33ce45964ff2167f6ecedd419db06c1"},
		{"abcdefghbcdefghicdefghijdefghijkefghijklfghijklmghijklmnhijklmnoijklmnopjklmnopqklmnopqrlmnopqrsmnopqrstnopqrstu",
			"cf5b16a778af8380036ce59e7b0492370b249b11e8f07a51afac45037afee9d1"},
		{strings.Repeat("a", 1000000), "cdc76e5c9914fb9281a1c7e284d73e67f1809a48a497200e046d39ccc7112cd0"},
	} {
		sums(t, x.text[:min(len(x.text), 10)], []byte(x.text), x.want)
	}
	sums(t, "nil", nil, "e3b0c44298fc1c149afbf4c8996fb92427ae41e4649b934ca495991b7852b855")
}

func TestSumAboutABlocksEnd(t *testing.T) {
	for _, x := range []struct {
		n    int
		want string
	}{
		{1, "6e340b9cffb37a989ca544e6bb780a2c78901d3fb33738768511a30617afa01d"},
		{3, "ae4b3280e56e2faf83f414a6e3dabe9d5fbe18976544c05fed121accb85b53fc"},
		{55, "463eb28e72f82e0a96c0a4cc53690c571281131f672aa229e0d45ae59b598b59"},
		{56, "da2ae4d6b36748f2a318f23e7ab1dfdf45acdc9d049bd80e59de82a60895f562"},
		{57, "2fe741af801cc238602ac0ec6a7b0c3a8a87c7fc7d7f02a3fe03d1c12eac4d8f"},
		{63, "29af2686fd53374a36b0846694cc342177e428d1647515f078784d69cdb9e488"},
		{64, "fdeab9acf3710362bd2658cdc9a29e8f9c757fcf9811603a8c447cd1d9151108"},
		{65, "4bfd2c8b6f1eec7a2afeb48b934ee4b2694182027e6d0fc075074f2fabb31781"},
		{119, "da18797ed7c3a777f0847f429724a2d8cd5138e6ed2895c3fa1a6d39d18f7ec6"},
		{120, "f52b23db1fbb6ded89ef42a23ce0c8922c45f25c50b568a93bf1c075420bbb7c"},
		{121, "335a461692b30bba1d647cc71604e88e676c90e4c22455d0b8c83f4bd7c8ac9b"},
		{127, "92ca0fa6651ee2f97b884b7246a562fa71250fedefe5ebf270d31c546bfea976"},
		{128, "471fb943aa23c511f6f72f8d1652d9c880cfa392ad80503120547703e56a2be5"},
		{129, "5099c6a56203f9687f7d33f4bfdf576d31dc91f6b695ecea38b2770c87631135"},
		{183, "b1459345163aed1c356302a5230f8912564b04f340610b18ef1aa2c47b418981"},
		{184, "82f63a1d007fd9796756abbbf51c246884dde3d79cf9cacacc901462ae75e3ff"},
		{256, "40aff2e9d2d8922e47afd4648e6967497158785fbd1da870e7110266bf944880"},
	} {
		sums(t, "bytes from 0 on", text(0, x.n), x.want)
	}
}

// TestSumOfALongText has a text whose bits are more than 32 of them count.
func TestSumOfALongText(t *testing.T) {
	b := make([]byte, 1<<29+3)
	copy(b[1<<29:], "abc")
	sums(t, "2^29 bytes 0 and abc", b, "717dbb38e902c8ccfec58bd3ad0c34913fab4850d86992ad326ed3ada0382653")
}

func TestSumIsOfAllTheText(t *testing.T) {
	for _, n := range edges {
		b := text(0, n)
		whole := hash.Sum(b)
		for i := range b {
			for bit := range 8 {
				b[i] ^= 1 << bit
				if hash.Sum(b) == whole {
					t.Errorf("%d bytes: the bit %d of the byte %d is nothing to Sum", n, bit, i)
				}
				b[i] ^= 1 << bit
			}
		}
		// Bytes that look as what a text is filled up with.
		for _, behind := range [][]byte{{0}, {0x80}, {0, 0}, {0x80, 0}} {
			if hash.Sum(append(bytes.Clone(b), behind...)) == whole {
				t.Errorf("%d bytes: %x behind them is nothing to Sum", n, behind)
			}
		}
	}
}

// tags fails the test, if a key's and a text's tag, or what is extracted of them, doesn't begin with what is wanted.
func tags(t *testing.T, what string, key, text []byte, want string) {
	t.Helper()
	b := hexed(t, want)
	if got := hash.Tag(key, text); !bytes.HasPrefix(got[:], b) {
		t.Errorf("%s: Tag = %x, want %s", what, got, want)
	}
	if got := hash.Extract(key, text); !bytes.HasPrefix(got[:], b) {
		t.Errorf("%s: Extract = %x, want %s", what, got, want)
	}
}

// TestTagOfTheStandardsTexts has RFC 4231's tags: of the fifth one that gives 16 bytes alone.
func TestTagOfTheStandardsTexts(t *testing.T) {
	for _, x := range []struct {
		what string
		key  []byte
		text string
		want string
	}{
		{"1", same(0x0b, 20), "Hi There", "b0344c61d8db38535ca8afceaf0bf12b881dc200c9833da726e9376c2e32cff7"},
		{"2", []byte("Jefe"), "what do ya want for nothing?", "5bdcc146bf60754e6a042426089575c75a003f089d2739839dec58b964ec3843"},
		{"3", same(0xaa, 20), string(same(0xdd, 50)), "773ea91e36800e46854db8ebd09181a72959098b3ef8c122d9635514ced565fe"},
		{"4", text(1, 25), string(same(0xcd, 50)), "82558a389a443c0ea4cc819899f2083a85f0faa3e578f8077a2e3ff46729665b"},
		{"5", same(0x0c, 20), "Test With Truncation", "a3b6167473100ee06e0c796c2955552b"},
		{"6", same(0xaa, 131), "Test Using Larger Than Block-Size Key - Hash Key First", "60e431591ee0b67f0d8a26aacbf5b77f8e0bc6213728c5140546040f0ee37f54"},
		{"7", same(0xaa, 131), "This is a test using a larger than block-size key and a larger than block-size data. The key needs to be hashed before being used by the HMAC algorithm.",
			"9b09ffa71b942fcb27635fbcd5b0e944bfdc63644f0713938a7f51535c3a35e2"},
	} {
		tags(t, x.what, x.key, []byte(x.text), x.want)
	}
}

func TestTagOfKeysAboutABlocksEnd(t *testing.T) {
	for _, x := range []struct {
		n    int
		want string
	}{
		{0, "44bea4f5fb035339650fed154351cff25876bc134759cd5a7c9aa34e3628720f"},
		{63, "34e47fad68db5e974e199d779616bfa8a2aacdbb94a2d065286065a922ca9dec"},
		{64, "dba2d4d53750b01e52762863e76824fa3d8bde1a98a8f5d7e9059e414d518b64"},
		{65, "37211a8690551474236b7fc06ff593a91a3391f284e008ae60789ce3687a1aa2"},
		{128, "60aa08a996381faf195a9437956ed51a943d52f55fccd9bdd81198d26ef5c351"},
	} {
		tags(t, "a key of bytes from 0 on", text(0, x.n), []byte("what is told"), x.want)
	}
}

func TestALongKeyIsItsDigest(t *testing.T) {
	for _, n := range []int{65, 66, 100, 128, 131, 1000} {
		key := text(3, n)
		digest := hash.Sum(key)
		if hash.Tag(key, []byte("abc")) != hash.Tag(digest[:], []byte("abc")) {
			t.Errorf("a key of %d bytes isn't its digest", n)
		}
	}
	for _, n := range []int{33, 63, 64} {
		key := text(3, n)
		digest := hash.Sum(key)
		if hash.Tag(key, []byte("abc")) == hash.Tag(digest[:], []byte("abc")) {
			t.Errorf("a key of %d bytes is its digest", n)
		}
	}
}

func TestAKeyIsFilledUpWithZeros(t *testing.T) {
	for _, n := range []int{0, 1, 32, 62, 63} {
		key := text(3, n)
		whole := append(bytes.Clone(key), make([]byte, 64-n)...)
		if hash.Tag(key, []byte("abc")) != hash.Tag(whole, []byte("abc")) {
			t.Errorf("a key of %d bytes isn't filled up with zeros", n)
		}
		if hash.Tag(key, []byte("abc")) == hash.Tag(append(whole, 0), []byte("abc")) {
			t.Errorf("a key of %d bytes, filled up to 65, is the same one", n)
		}
	}
}

// TestTagIsOfTwoDigests has the tag put together by Sum, as the chapter's text has it.
func TestTagIsOfTwoDigests(t *testing.T) {
	for _, keySize := range []int{0, 1, 32, 63, 64} {
		for _, n := range edges {
			b := text(7, n)
			inner, outer := same(0x36, 64), same(0x5c, 64)
			for i, x := range text(3, keySize) {
				inner[i] ^= x
				outer[i] ^= x
			}
			first := hash.Sum(append(inner, b...))
			if got, want := hash.Tag(text(3, keySize), b), hash.Sum(append(outer, first[:]...)); got != want {
				t.Errorf("a key of %d bytes, a text of %d: Tag = %x, want %x", keySize, n, got, want)
			}
		}
	}
}

func TestSumAndTagChangeNothing(t *testing.T) {
	for _, keySize := range []int{0, 1, 32, 63, 64, 65, 131} {
		for _, n := range edges {
			key, keyMemory := withRoom(text(3, keySize))
			b, memory := withRoom(text(7, n))
			first, tag, secret := hash.Sum(b), hash.Tag(key, b), hash.Extract(key, b)
			isUnchanged(t, "a key", keyMemory, text(3, keySize))
			isUnchanged(t, "a text", memory, text(7, n))
			// What stands in the spare room is nothing to them, nor what becomes of the arguments.
			spoil(key)
			spoil(b)
			if first != hash.Sum(text(7, n)) || tag != hash.Tag(text(3, keySize), text(7, n)) || secret != tag {
				t.Errorf("a key of %d bytes, a text of %d: other answers in other memory", keySize, n)
			}
		}
	}
}

func TestKeyAndTextInTheSameMemory(t *testing.T) {
	for _, n := range []int{0, 20, 64, 65, 131} {
		b := text(9, n)
		if hash.Tag(b, b) != hash.Tag(text(9, n), text(9, n)) {
			t.Errorf("%d bytes: another tag of the same memory", n)
		}
	}
}

// examplesSecret is the one that RFC 5869's first test expands.
func examplesSecret(t *testing.T) api.Hash {
	t.Helper()
	return api.Hash(hexed(t, "077709362c2e32df0ddc3f0dc47bba6390b6c73bb50f9c3122ec844ad7c2b3e5"))
}
