package hash_test

import (
	"bytes"
	"crypto/hkdf"
	"crypto/hmac"
	"crypto/sha256"
	"math/rand"
	"testing"

	"doorward/api"
	"doorward/hash"
)

// What follows holds the calls against the library's, which the program itself doesn't use.

// isAsInTheLibrary fails the test, if a digest, a tag, or what is extracted is another one.
func isAsInTheLibrary(t *testing.T, key, b []byte) {
	t.Helper()
	if got, want := hash.Sum(b), api.Hash(sha256.Sum256(b)); got != want {
		t.Fatalf("Sum(%x) = %x, want %x", b, got, want)
	}
	h := hmac.New(sha256.New, key)
	h.Write(b)
	want := api.Hash(h.Sum(nil))
	if got := hash.Tag(key, b); got != want {
		t.Fatalf("Tag(%x, %x) = %x, want %x", key, b, got, want)
	}
	if got := hash.Extract(key, b); got != want {
		t.Fatalf("Extract(%x, %x) = %x, want %x", key, b, got, want)
	}
}

// isExpandedAsInTheLibrary fails the test, if what a secret is expanded to, by an info or a label, is something else.
func isExpandedAsInTheLibrary(t *testing.T, secret api.Hash, info []byte, n int) {
	t.Helper()
	expandAgain := func(info string) []byte {
		if n < 0 || n > 255 {
			return nil
		}
		b, err := hkdf.Expand(sha256.New, secret[:], info, n)
		if err != nil {
			t.Fatal(err)
		}
		return b
	}
	if got, want := hash.Expand(secret, info, n), expandAgain(string(info)); !bytes.Equal(got, want) {
		t.Fatalf("Expand(%x, %x, %d) = %x, want %x", secret, info, n, got, want)
	}
	label := string(info)
	var want []byte
	if len(label) <= 60 {
		want = expandAgain("\x00" + string([]byte{byte(n), byte(6 + len(label))}) + "tls13 " + label + "\x00")
	}
	if got := hash.Label(secret, label, n); !bytes.Equal(got, want) {
		t.Fatalf("Label(%x, %q, %d) = %x, want %x", secret, label, n, got, want)
	}
}

func TestEachShortTextAsInTheLibrary(t *testing.T) {
	r := rand.New(rand.NewSource(7))
	for n := range 400 {
		b := make([]byte, n)
		r.Read(b)
		for _, filled := range [][]byte{b, make([]byte, n), same(0xff, n), text(byte(n), n)} {
			isAsInTheLibrary(t, nil, filled)
			isAsInTheLibrary(t, filled, nil)
			isAsInTheLibrary(t, filled, b)
		}
	}
}

func TestDrawnTextsAsInTheLibrary(t *testing.T) {
	r := rand.New(rand.NewSource(8))
	for range 3000 {
		key, b := make([]byte, r.Intn(200)), make([]byte, r.Intn(5000)>>r.Intn(8))
		r.Read(key)
		r.Read(b)
		isAsInTheLibrary(t, key, b)
	}
}

func TestDrawnSecretsAsInTheLibrary(t *testing.T) {
	r := rand.New(rand.NewSource(9))
	for range 5000 {
		var secret api.Hash
		r.Read(secret[:])
		info := make([]byte, r.Intn(130)>>r.Intn(4))
		r.Read(info)
		isExpandedAsInTheLibrary(t, secret, info, r.Intn(300)-20)
	}
}

func FuzzHash(f *testing.F) {
	for _, n := range edges {
		f.Add(text(3, n), text(7, n), n)
	}
	f.Add([]byte{}, []byte("abc"), -1)
	f.Add([]byte("Jefe"), []byte("what do ya want for nothing?"), 256)
	f.Fuzz(func(t *testing.T, key, b []byte, n int) {
		isAsInTheLibrary(t, key, b)
		isExpandedAsInTheLibrary(t, sha256.Sum256(key), b, n)
	})
}
