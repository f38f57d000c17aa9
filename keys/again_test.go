package keys_test

import (
	"bytes"
	libraryAes "crypto/aes"
	"crypto/cipher"
	"crypto/hkdf"
	"crypto/sha256"
	"encoding/binary"
	"math/rand"
	"testing"

	"doorward/api"
	"doorward/keys"
)

// What follows holds the calls against the library's, which the program itself doesn't use, and against the chapter said once more in another way: a ring by its secrets, and how often they were updated.

// labelAgain is what a secret is expanded to by a label.
func labelAgain(t *testing.T, secret []byte, label string, n int) []byte {
	t.Helper()
	label = "tls13 " + label
	b, err := hkdf.Expand(sha256.New, secret, string([]byte{0, byte(n), byte(len(label))})+label+"\x00", n)
	if err != nil {
		t.Fatal(err)
	}
	return b
}

// twoAgain are two secrets, by their labels, of what is extracted.
func twoAgain(t *testing.T, salt, text []byte, one, other string) (api.Hash, api.Hash) {
	t.Helper()
	secret, err := hkdf.Extract(sha256.New, text, salt)
	if err != nil {
		t.Fatal(err)
	}
	return api.Hash(labelAgain(t, secret, one, 32)), api.Hash(labelAgain(t, secret, other, 32))
}

// updatedAgain is a secret behind so many updates.
func updatedAgain(t *testing.T, secret api.Hash, updates int) []byte {
	t.Helper()
	b := secret[:]
	for range updates {
		b = labelAgain(t, b, "quic ku", 32)
	}
	return b
}

// cipherAgain is what seals by a secret behind so many updates, and a packet's nonce.
func cipherAgain(t *testing.T, secret api.Hash, updates int, n int64) (cipher.AEAD, []byte) {
	t.Helper()
	b := updatedAgain(t, secret, updates)
	c, err := libraryAes.NewCipher(labelAgain(t, b, "quic key", 16))
	if err != nil {
		t.Fatal(err)
	}
	g, err := cipher.NewGCM(c)
	if err != nil {
		t.Fatal(err)
	}
	nonce := labelAgain(t, b, "quic iv", 12)
	low := nonce[4:]
	binary.BigEndian.PutUint64(low, binary.BigEndian.Uint64(low)^uint64(n))
	return g, nonce
}

// sealAgain is a text, sealed by a secret behind so many updates.
func sealAgain(t *testing.T, secret api.Hash, updates int, n int64, more, text []byte) []byte {
	t.Helper()
	g, nonce := cipherAgain(t, secret, updates, n)
	return g.Seal(nil, nonce, text, more)
}

// openAgain is a text, opened by a secret behind so many updates.
func openAgain(t *testing.T, secret api.Hash, updates int, n int64, more, sealed []byte) ([]byte, api.Errno) {
	t.Helper()
	if len(sealed) < 16 {
		return nil, api.ErrShort
	}
	g, nonce := cipherAgain(t, secret, updates, n)
	b, err := g.Open(nil, nonce, sealed, more)
	if err != nil {
		return nil, api.ErrAuth
	}
	return b, api.OK
}

// ringAgain is a ring: its secrets, whether its levels have, or had, keys, and how often level 1's were updated.
type ringAgain struct {
	own, peer   [2]api.Hash
	there, gone [2]bool
	updates     int
}

func (r *ringAgain) set(level int, own, peer api.Hash) bool {
	if level != 0 && level != 1 || r.there[level] || r.gone[level] {
		return false
	}
	r.own[level], r.peer[level], r.there[level] = own, peer, true
	return true
}

func (r *ringAgain) has(level int) bool { return (level == 0 || level == 1) && r.there[level] }

func (r *ringAgain) drop(level int) bool {
	if !r.has(level) {
		return false
	}
	r.there[level], r.gone[level] = false, true
	return true
}

func (r *ringAgain) turn() bool {
	if r.there[1] {
		r.updates++
	}
	return r.there[1]
}

// updatesOf is how often a level's keys were updated.
func (r *ringAgain) updatesOf(level int) int { return level * r.updates }

func (r *ringAgain) state() state {
	s := state{hasLong: r.there[0], hasShort: r.there[1], phase: r.there[1] && r.updates%2 == 1}
	for level := range 2 {
		if r.there[level] {
			s.live += 2
		}
	}
	if r.there[1] && r.updates > 0 {
		s.live++
	}
	return s
}

func (r *ringAgain) open(t *testing.T, level int, phase bool, n int64, more, sealed []byte) ([]byte, api.Errno) {
	t.Helper()
	if !r.has(level) {
		return nil, api.ErrState
	}
	tried := []int{r.updates - 1, r.updates + 1}
	if level == 0 || phase == (r.updates%2 == 1) {
		tried = []int{r.updatesOf(level)}
	}
	var b []byte
	var e api.Errno
	for _, updates := range tried {
		if updates < 0 {
			continue
		}
		if b, e = openAgain(t, r.peer[level], updates, n, more, sealed); e == api.OK {
			r.updates = max(r.updates, updates)
			break
		}
	}
	return b, e
}

// isMadeAsAgain fails the test, if keys, or secrets, are others.
func isMadeAsAgain(t *testing.T, secret api.Hash, phase bool, one, other []byte) {
	t.Helper()
	want := api.Secret{
		Key:   [16]byte(labelAgain(t, secret[:], "quic key", 16)),
		Iv:    [12]byte(labelAgain(t, secret[:], "quic iv", 12)),
		Next:  api.Hash(labelAgain(t, secret[:], "quic ku", 32)),
		Phase: phase,
	}
	if got := keys.Make(secret, phase); got != want {
		t.Fatalf("Make(%x, %t) = %v, want %v", secret, phase, got, want)
	}
	next := want.Next
	want = api.Secret{
		Key:   [16]byte(labelAgain(t, next[:], "quic key", 16)),
		Iv:    [12]byte(labelAgain(t, next[:], "quic iv", 12)),
		Next:  api.Hash(updatedAgain(t, secret, 2)),
		Phase: !phase,
	}
	if got := keys.Update(keys.Make(secret, phase)); got != want {
		t.Fatalf("Update of %x, %t = %v, want %v", secret, phase, got, want)
	}
	wantClient, wantServer := twoAgain(t, []byte("doorward first salt.."), one, "client in", "server in")
	if client, server := keys.First(one); client != wantClient || server != wantServer {
		t.Fatalf("First(%x) = %x, %x, want %x, %x", one, client, server, wantClient, wantServer)
	}
	wantClient, wantServer = twoAgain(t, one, other, "c ap traffic", "s ap traffic")
	if client, server := keys.Later(one, other); client != wantClient || server != wantServer {
		t.Fatalf("Later(%x, %x) = %x, %x, want %x, %x", one, other, client, server, wantClient, wantServer)
	}
}

// isSealedAsAgain fails the test, if a packet is sealed to something else, or that isn't opened, or what isn't to be is.
func isSealedAsAgain(t *testing.T, secret api.Hash, n int64, more, b []byte) {
	t.Helper()
	s := keys.Make(secret, false)
	want := sealAgain(t, secret, 0, n, more, b)
	if got := keys.Seal(s, n, more, b); !bytes.Equal(got, want) {
		t.Fatalf("Seal by %x, %d, %x, %x = %x, want %x", secret, n, more, b, got, want)
	}
	for _, sealed := range [][]byte{want, b} {
		wantText, wantError := openAgain(t, secret, 0, n, more, sealed)
		if got, e := keys.Open(s, n, more, sealed); e != wantError || !bytes.Equal(got, wantText) {
			t.Fatalf("Open by %x, %d, %x, %x = %x, %d, want %x, %d", secret, n, more, sealed, got, e, wantText, wantError)
		}
	}
}

// script is what is done to a ring: bytes, one after the other, zeros behind the last one.
type script []byte

func (s *script) next() byte {
	if len(*s) == 0 {
		return 0
	}
	b := (*s)[0]
	*s = (*s)[1:]
	return b
}

// step does one thing to a ring and to the one said again, and holds what they answer against each other.
func (s *script) step(t *testing.T, r *keys.Ring, again *ringAgain) {
	t.Helper()
	level := int(s.next()%6) - 2
	if level < 0 { // levels that there are come more often
		level += 2
	} else if level == 3 {
		level = -1
	}
	switch s.next() % 8 {
	case 0:
		own, peer := api.Hash{s.next()}, api.Hash{1, s.next()}
		answers(t, "Set", r.Set(level, own, peer), again.set(level, own, peer))
	case 1:
		if s.next()%4 == 0 { // or else little would be left to be done
			answers(t, "Drop", r.Drop(level), again.drop(level))
		}
	case 2:
		answers(t, "Turn", r.Turn(), again.turn())
	case 3:
		n, b := int64(s.next()), text(s.next(), int(s.next()%40))
		var want []byte
		if again.has(level) {
			want = sealAgain(t, again.own[level], again.updatesOf(level), n, b, b)
		}
		if got := r.Seal(level, n, b, b); !bytes.Equal(got, want) {
			t.Fatalf("Seal(%d, %d, %x, %x) = %x, want %x", level, n, b, b, got, want)
		}
	default:
		s.open(t, level, r, again)
	}
	again.state().is(t, "behind a step", r)
}

// open has a packet opened that the peer sealed, behind a few updates less or more, or that is changed somewhere.
func (s *script) open(t *testing.T, level int, r *keys.Ring, again *ringAgain) {
	t.Helper()
	secret := api.Hash{1}
	if again.has(level) {
		secret = again.peer[level]
	}
	updates := max(0, again.updates+int(s.next()%5)-2)
	phase := updates%2 == 1
	n, more := int64(s.next())<<(s.next()%56), text(s.next(), int(s.next()%20))
	sealed := sealAgain(t, secret, updates, n, more, text(s.next(), int(s.next()%40)))
	switch s.next() % 8 {
	case 0:
		phase = !phase
	case 1:
		sealed[int(s.next())%len(sealed)] ^= 1 << (s.next() % 8)
	case 2:
		sealed = sealed[:int(s.next())%len(sealed)]
	case 3:
		n ^= 1 << (s.next() % 64)
	}
	wantText, wantError := again.open(t, level, phase, n, more, sealed)
	if got, e := r.Open(level, phase, n, more, sealed); e != wantError || !bytes.Equal(got, wantText) {
		t.Fatalf("Open(%d, %t, %d, %x, %x) = %x, %d, want %x, %d", level, phase, n, more, sealed, got, e, wantText, wantError)
	}
}

// isDoneAsAgain does all of a script to a fresh ring.
func isDoneAsAgain(t *testing.T, s script) {
	t.Helper()
	r, again := keys.NewRing(), &ringAgain{}
	for len(s) > 0 {
		s.step(t, r, again)
	}
}

func TestDrawnKeysAgain(t *testing.T) {
	r := rand.New(rand.NewSource(11))
	for range 1000 {
		var secret api.Hash
		r.Read(secret[:])
		one, other := make([]byte, r.Intn(200)>>r.Intn(8)), make([]byte, r.Intn(200)>>r.Intn(8))
		r.Read(one)
		r.Read(other)
		isMadeAsAgain(t, secret, r.Intn(2) == 0, one, other)
		isSealedAsAgain(t, secret, int64(r.Uint64()>>r.Intn(64)), one, other)
	}
}

func TestDrawnScriptsAgain(t *testing.T) {
	r := rand.New(rand.NewSource(12))
	for range 150 {
		s := make(script, 800)
		r.Read(s)
		isDoneAsAgain(t, s)
	}
}

func FuzzKeys(f *testing.F) {
	f.Add([]byte{}, int64(0), true, []byte{}, []byte("abc"))
	for _, x := range numbers {
		f.Add(text(3, 32), x.n, x.n%2 == 0, text(7, 20), text(9, 33))
	}
	f.Fuzz(func(t *testing.T, secret []byte, n int64, phase bool, one, other []byte) {
		isMadeAsAgain(t, sha256.Sum256(secret), phase, one, other)
		isSealedAsAgain(t, sha256.Sum256(secret), n, one, other)
	})
}

func FuzzRing(f *testing.F) {
	f.Add([]byte{3, 0, 1, 2, 3, 0, 5, 6, 3, 2, 3, 4, 3, 7, 1, 2, 3, 4, 5, 5})
	f.Add([]byte{3, 0, 1, 2, 3, 4, 3, 1, 0, 3, 7, 9, 9, 5, 3, 4, 1, 1, 0, 3, 7, 9, 9, 5})
	f.Fuzz(func(t *testing.T, s []byte) {
		isDoneAsAgain(t, s[:min(len(s), 500)])
	})
}
