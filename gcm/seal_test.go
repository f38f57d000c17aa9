package gcm_test

import (
	"bytes"
	"testing"

	"doorward/aes"
	"doorward/api"
	"doorward/gcm"
)

// What AES-GCM's own paper seals in its cases 3 and 4: the second text is the first one, cut short.
const (
	papersKey            = "feffe9928665731c6d6a8f9467308308"
	papersNonce          = "cafebabefacedbaddecaf888"
	papersMore           = "feedfacedeadbeeffeedfacedeadbeefabaddad2"
	papersText           = "d9313225f88406e5a55909c5aff5269a86a7a9531534f7da2e4c303d8a318a721c3c0c95956809532fcf0e2449a6b525b16aedf5aa0de657ba637b39"
	papersLongText       = papersText + "1aafd255"
	papersEnciphered     = "42831ec2217774244b7221b784d0d49ce3aa212f2c02a4e035c17e2329aca12e21d514b25466931c7d8f6a5aac84aa051ba30b396a0aac973d58e091"
	papersLongEnciphered = papersEnciphered + "473f5985"
)

// nistsMore is what the examples of SP 800-38D have beside the paper's key, nonce and texts.
const nistsMore = "3ad77bb40d7a3660a89ecaf32466ef97f5d3d58503b9699de785895a96fdbaaf43b1cd7f598ece23881b00e3ed0306887b0c785e27e8ad3f8223207104725dd4"

// sealedBefore are texts that standards, and papers, seal.
var sealedBefore = []struct{ what, key, nonce, more, text, want string }{
	{"the paper's case 1", "00000000000000000000000000000000", "000000000000000000000000", "", "",
		"58e2fccefa7e3061367f1d57a4e7455a"},
	{"the paper's case 2", "00000000000000000000000000000000", "000000000000000000000000", "", "00000000000000000000000000000000",
		"0388dace60b6a392f328c2b971b2fe78" + "ab6e47d42cec13bdf53a67b21257bddf"},
	{"the paper's case 3", papersKey, papersNonce, "", papersLongText,
		papersLongEnciphered + "4d5c2af327cd64a62cf35abd2ba6fab4"},
	{"the paper's case 4", papersKey, papersNonce, papersMore, papersText,
		papersEnciphered + "5bc94fbc3221a5db94fae95ae7121a47"},
	{"SP 800-38D's example 1", papersKey, papersNonce, "", "",
		"3247184b3c4f69a44dbcd22887bbb418"},
	{"SP 800-38D's example 3", papersKey, papersNonce, nistsMore, "",
		"5f91d77123ef5eb9997913849b8dc1e9"},
	{"SP 800-38D's example 4", papersKey, papersNonce, nistsMore, papersLongText,
		papersLongEnciphered + "64c0232904af398a5b67c10b53a5024d"},
	{"SP 800-38D's example 5", papersKey, papersNonce, nistsMore[:40], papersText,
		papersEnciphered + "f07c2528eea2fca1211f905e1b6a881b"},
	{"RFC 9001's first packet of a server", "cf3a5331653c364c88f0f379b6067e37", "0ac1493ca1905853b0bba03f", "c1000000010008f067a5502a4262b50040750001",
		"02000000000600405a020000560303eefce7f7b37ba1d1632e96677825ddf73988cfc79825df566dc5430b9a045a1200130100002e00330024001d00209d3c940d89690b84d08a60993c144eca684d1081287c834d5311bcf32bb9da1a002b00020304",
		"5a482cd0991cd25b0aac406a5816b6394100f37a1c69797554780bb38cc5a99f5ede4cf73c3ec2493a1839b3dbcba3f6ea46c5b7684df3548e7ddeb9c3bf9c73cc3f3bded74b562bfb19fb84022f8ef4cdd93795d77d06edbb7aaf2f58891850abbdca3d20398c276456cbc42158407dd074ee"},
	{"RFC 9001's tag of a Retry packet", "be0c690b9f66575a1d766b54e368c84e", "461599d35d632bf2239825bb", "088394c8f03e515708ff000000010008f067a5502a4262b5746f6b656e", "",
		"04a265ba2eff4d829058fb3f0f2496ba"},
}

// nonceOf is a nonce by its hexadecimal digits.
func nonceOf(t *testing.T, s string) [12]byte {
	t.Helper()
	return [12]byte(hexed(t, s))
}

// isOpened fails the test, if what is sealed isn't opened to a text.
func isOpened(t *testing.T, what string, key [16]byte, nonce [12]byte, more, sealed, want []byte) {
	t.Helper()
	if got, e := gcm.Open(key, nonce, more, sealed); e != api.OK || !bytes.Equal(got, want) {
		t.Errorf("%s: Open = %x, %d, want %x", what, got, e, want)
	}
}

// isNotOpened fails the test, if bytes are opened, or told by another error, or any text stands beside it.
func isNotOpened(t *testing.T, what string, key [16]byte, nonce [12]byte, more, sealed []byte, want api.Errno) {
	t.Helper()
	if got, e := gcm.Open(key, nonce, more, sealed); e != want || len(got) != 0 {
		t.Errorf("%s: Open = %x, %d, want none and %d", what, got, e, want)
	}
}

// P9.2

func TestTagSize(t *testing.T) {
	if gcm.TagSize != 16 {
		t.Errorf("a tag has %d bytes", gcm.TagSize)
	}
}

func TestSealAndOpenOfTheStandards(t *testing.T) {
	for _, x := range sealedBefore {
		key, nonce, more, b, want := blockOf(t, x.key), nonceOf(t, x.nonce), hexed(t, x.more), hexed(t, x.text), hexed(t, x.want)
		if got := gcm.Seal(key, nonce, more, b); !bytes.Equal(got, want) {
			t.Errorf("%s: Seal = %x, want %x", x.what, got, want)
		}
		isOpened(t, x.what, key, nonce, more, want, b)
	}
}

// TestSealIsOfStreamAndSum has sealed texts put together by layer 8 and by Sum, as the chapter's text has it.
func TestSealIsOfStreamAndSum(t *testing.T) {
	for _, x := range []struct{ key, nonce string }{
		{papersKey, papersNonce},
		{"00000000000000000000000000000000", "ffffffffffffffffffffffff"},
		{"ffffffffffffffffffffffffffffffff", "000000000000000000000001"},
	} {
		key, nonce := blockOf(t, x.key), nonceOf(t, x.nonce)
		h := aes.Encipher(key, [16]byte{})
		hidden := aes.Encipher(key, blockOf(t, x.nonce+"00000001"))
		for _, size := range edges {
			for _, n := range edges {
				more, b := text(3, size), text(7, n)
				enciphered := aes.Stream(key, blockOf(t, x.nonce+"00000002"), b)
				tag := plus(gcm.Sum(h, more, enciphered), hidden)
				want := append(enciphered, tag[:]...)
				if got := gcm.Seal(key, nonce, more, b); !bytes.Equal(got, want) {
					t.Errorf("more of %d bytes, a text of %d: Seal = %x, want %x", size, n, got, want)
				}
			}
		}
	}
}

func TestSealOfNothing(t *testing.T) {
	want := hexed(t, "58e2fccefa7e3061367f1d57a4e7455a")
	for _, none := range [][]byte{nil, {}} {
		got := gcm.Seal([16]byte{}, [12]byte{}, none, none)
		if !bytes.Equal(got, want) {
			t.Errorf("Seal of nothing = %x, want %x", got, want)
		}
		isOpened(t, "nothing", [16]byte{}, [12]byte{}, none, got, nil)
	}
}

func TestOpenOfTooFewBytes(t *testing.T) {
	key, nonce := blockOf(t, papersKey), nonceOf(t, papersNonce)
	isNotOpened(t, "no list", key, nonce, nil, nil, api.ErrShort)
	isNotOpened(t, "no list, with more", key, nonce, text(3, 20), nil, api.ErrShort)
	for n := range 16 {
		isNotOpened(t, "bytes 0", key, nonce, nil, make([]byte, n), api.ErrShort)
		isNotOpened(t, "a tag, cut short", key, nonce, nil, gcm.Seal(key, nonce, nil, nil)[:n], api.ErrShort)
		isNotOpened(t, "a sealed text, cut short", key, nonce, text(3, 20), gcm.Seal(key, nonce, text(3, 20), text(7, 33))[:n], api.ErrShort)
	}
}

func TestOpenOfATagsBytes(t *testing.T) {
	key, nonce := blockOf(t, papersKey), nonceOf(t, papersNonce)
	for _, more := range [][]byte{nil, {}, {0}, text(3, 20)} {
		tag := gcm.Seal(key, nonce, more, nil)
		if len(tag) != 16 {
			t.Errorf("no byte is sealed to %d bytes", len(tag))
		}
		isOpened(t, "a tag", key, nonce, more, tag, nil)
		isNotOpened(t, "16 bytes 0", key, nonce, more, make([]byte, 16), api.ErrAuth)
		isNotOpened(t, "the tag of other more", key, nonce, append(text(4, 1), more...), tag, api.ErrAuth)
	}
}

func TestOpenOfWhatWasNotSealed(t *testing.T) {
	key, nonce := blockOf(t, papersKey), nonceOf(t, papersNonce)
	for n := range 70 {
		isNotOpened(t, "bytes 0", key, nonce, nil, make([]byte, 16+n), api.ErrAuth)
		isNotOpened(t, "any bytes", key, nonce, text(3, n), text(7, 16+n), api.ErrAuth)
		// The tag of the text itself isn't that of what it is enciphered to.
		tag := plus(gcm.Sum(aes.Encipher(key, [16]byte{}), nil, text(7, n+1)), aes.Encipher(key, blockOf(t, papersNonce+"00000001")))
		isNotOpened(t, "a text's own tag", key, nonce, nil, append(gcm.Seal(key, nonce, nil, text(7, n+1))[:n+1], tag[:]...), api.ErrAuth)
	}
}

func TestSealIsATagLonger(t *testing.T) {
	for _, size := range edges {
		for n := range 70 {
			if got := gcm.Seal([16]byte{}, [12]byte{}, text(3, size), text(7, n)); len(got) != n+16 {
				t.Errorf("more of %d bytes: a text of %d is sealed to %d", size, n, len(got))
			}
		}
	}
}

func TestSealAndOpenChangeNothing(t *testing.T) {
	key, nonce := blockOf(t, papersKey), nonceOf(t, papersNonce)
	for _, size := range edges {
		for _, n := range edges {
			more, moreMemory := withRoom(text(3, size))
			b, memory := withRoom(text(7, n))
			sealed := gcm.Seal(key, nonce, more, b)
			isUnchanged(t, "Seal's more", moreMemory, text(3, size))
			isUnchanged(t, "Seal's text", memory, text(7, n))
			// What becomes of the arguments is nothing to the answer.
			spoil(b)
			if want := gcm.Seal(key, nonce, text(3, size), text(7, n)); !bytes.Equal(sealed, want) {
				t.Errorf("more of %d bytes, a text of %d: sealed in other memory as %x, not as %x", size, n, want, sealed)
			}
			again, sealedMemory := withRoom(sealed)
			opened, e := gcm.Open(key, nonce, more, again)
			isUnchanged(t, "Open's more", moreMemory, text(3, size))
			isUnchanged(t, "Open's bytes", sealedMemory, sealed)
			spoil(again)
			if e != api.OK || !bytes.Equal(opened, text(7, n)) {
				t.Errorf("more of %d bytes, a text of %d: opened in other memory as %x, %d", size, n, opened, e)
			}
			// Nor may they be changed where nothing is opened.
			wrong, wrongMemory := withRoom(text(9, n+16))
			gcm.Open(key, nonce, more, wrong)
			isUnchanged(t, "Open's wrong bytes", wrongMemory, text(9, n+16))
		}
	}
	if key != blockOf(t, papersKey) || nonce != nonceOf(t, papersNonce) {
		t.Error("a key, or a nonce, was changed")
	}
}

func TestSealAndOpenAnswerNewMemory(t *testing.T) {
	key, nonce := blockOf(t, papersKey), nonceOf(t, papersNonce)
	for _, n := range edges {
		more, moreMemory := withRoom(text(3, n))
		b, memory := withRoom(text(7, n))
		sealed, sealedAgain := gcm.Seal(key, nonce, more, b), gcm.Seal(key, nonce, more, b)
		want := bytes.Clone(sealed)
		spoil(sealed)
		if !bytes.Equal(sealedAgain, want) || !bytes.Equal(gcm.Seal(key, nonce, more, b), want) {
			t.Errorf("%d bytes: what was sealed hangs on what became of another answer", n)
		}
		again, sealedMemory := withRoom(want)
		opened, _ := gcm.Open(key, nonce, more, again)
		openedAgain, _ := gcm.Open(key, nonce, more, again)
		spoil(opened)
		if !bytes.Equal(openedAgain, text(7, n)) {
			t.Errorf("%d bytes: what was opened hangs on what became of another answer", n)
		}
		isUnchanged(t, "more", moreMemory, text(3, n))
		isUnchanged(t, "a text", memory, text(7, n))
		isUnchanged(t, "what was sealed", sealedMemory, want)
	}
}

// P9.3

func TestWhatIsSealedIsOpened(t *testing.T) {
	for _, key := range [][16]byte{{}, blockOf(t, papersKey), [16]byte(bytes.Repeat([]byte{0xff}, 16))} {
		for _, nonce := range [][12]byte{{}, nonceOf(t, papersNonce), [12]byte(bytes.Repeat([]byte{0xff}, 12))} {
			for _, size := range edges {
				for _, n := range edges {
					more, b := text(3, size), text(7, n)
					isOpened(t, "what was sealed", key, nonce, more, gcm.Seal(key, nonce, more, b), b)
				}
			}
		}
	}
}

func TestNothingIsOpenedWithOneBitTurned(t *testing.T) {
	for _, size := range []int{0, 1, 15, 16, 17, 32} {
		for _, n := range []int{0, 1, 15, 16, 17, 32} {
			key, nonce, more, b := blockOf(t, papersKey), nonceOf(t, papersNonce), text(3, size), text(7, n)
			sealed := gcm.Seal(key, nonce, more, b)
			for what, part := range map[string][]byte{"what is sealed": sealed, "more": more, "the key": key[:], "the nonce": nonce[:]} {
				for bit := range 8 * len(part) {
					part[bit/8] ^= 1 << (bit % 8)
					isNotOpened(t, what+" turned", key, nonce, more, sealed, api.ErrAuth)
					part[bit/8] ^= 1 << (bit % 8)
				}
			}
			isOpened(t, "with all turned back", key, nonce, more, sealed, b)
		}
	}
}

// TestNothingIsOpenedOfOtherLengths has bytes that are cut off, put ahead or behind, or go from more to what is sealed.
func TestNothingIsOpenedOfOtherLengths(t *testing.T) {
	key, nonce := blockOf(t, papersKey), nonceOf(t, papersNonce)
	for _, size := range edges {
		for _, n := range edges {
			more := make([]byte, size)
			sealed := gcm.Seal(key, nonce, more, make([]byte, n))
			for cut := 1; cut <= n; cut++ {
				isNotOpened(t, "cut short", key, nonce, more, sealed[:len(sealed)-cut], api.ErrAuth)
				isNotOpened(t, "cut ahead", key, nonce, more, sealed[cut:], api.ErrAuth)
				isNotOpened(t, "parted elsewhere", key, nonce, append(bytes.Clone(more), sealed[:cut]...), sealed[cut:], api.ErrAuth)
			}
			isNotOpened(t, "with a byte ahead", key, nonce, more, append([]byte{0}, sealed...), api.ErrAuth)
			isNotOpened(t, "with a byte behind", key, nonce, more, append(bytes.Clone(sealed), 0), api.ErrAuth)
			isNotOpened(t, "with a byte ahead of the tag", key, nonce, more, append(append(bytes.Clone(sealed[:n]), 0), sealed[n:]...), api.ErrAuth)
			isNotOpened(t, "with more than more", key, nonce, make([]byte, size+1), sealed, api.ErrAuth)
			if size > 0 {
				isNotOpened(t, "with less than more", key, nonce, more[1:], sealed, api.ErrAuth)
				isNotOpened(t, "with more ahead", key, nonce, nil, append(bytes.Clone(more), sealed...), api.ErrAuth)
			}
		}
	}
}
