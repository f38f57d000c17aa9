package keys_test

import (
	"bytes"
	"encoding/hex"
	"math"
	"testing"

	"doorward/api"
	"doorward/gcm"
	"doorward/hash"
	"doorward/keys"
)

// text is so many bytes from a first one on, each one more than the one ahead.
func text(first byte, n int) []byte {
	b := make([]byte, n)
	for i := range b {
		b[i] = first + byte(i)
	}
	return b
}

// hexed are the bytes that a text of hexadecimal digits is of.
func hexed(t *testing.T, s string) []byte {
	t.Helper()
	b, err := hex.DecodeString(s)
	if err != nil {
		t.Fatal(err)
	}
	return b
}

// secretOf is a secret by its hexadecimal digits.
func secretOf(t *testing.T, s string) api.Hash {
	t.Helper()
	return api.Hash(hexed(t, s))
}

// spoil writes to all of a slice's memory, its spare room included.
func spoil(b []byte) {
	b = b[:cap(b)]
	for i := range b {
		b[i] ^= 0xa5
	}
}

// room stands behind what is handed in.
var room = bytes.Repeat([]byte{0x77}, 200)

// withRoom is a copy of bytes with spare room behind them, and all that memory.
func withRoom(b []byte) (copied, memory []byte) {
	memory = append(bytes.Clone(b), room...)
	return memory[:len(b)], memory
}

// isUnchanged fails the test, if memory that was handed in isn't as it was.
func isUnchanged(t *testing.T, what string, memory, b []byte) {
	t.Helper()
	if !bytes.Equal(memory, append(bytes.Clone(b), room...)) {
		t.Errorf("%s: what was handed in is %x, was %x", what, memory, b)
	}
}

// Secrets of RFC 9001: a client's and a server's of its first packets (Appendix A.1), and another one (A.5).
const (
	clients = "c00cf151ca5be075ed0ebfb5c80323c42d6b7db67881289af4008f1f6c357aea"
	servers = "3c199828fd139efd216c155ad844cc81fb82fa8d7446fa7d78be803acdda951b"
	another = "9ac312a7f877468ebe69422748ad00a15443f18203a07d6060f688f30f21632b"
	zeros   = "0000000000000000000000000000000000000000000000000000000000000000"
)

// numbers are the edges of packet numbers, by what they put where in a nonce. Those below 0 are no packets', but may be handed in.
var numbers = []struct {
	n     int64
	xored string
}{
	{0, "000000000000000000000000"},
	{1, "000000000000000000000001"},
	{2, "000000000000000000000002"},
	{255, "0000000000000000000000ff"},
	{256, "000000000000000000000100"},
	{1<<16 + 2, "000000000000000000010002"},
	{1<<32 - 1, "0000000000000000ffffffff"},
	{1 << 32, "000000000000000100000000"},
	{0x0102030405060708, "000000000102030405060708"},
	{api.MaxInt, "000000003fffffffffffffff"},
	{math.MaxInt64, "000000007fffffffffffffff"},
	{-1, "00000000ffffffffffffffff"},
	{-256, "00000000ffffffffffffff00"},
	{math.MinInt64, "000000008000000000000000"},
}

// edges are how many bytes texts, and more of them, have.
var edges = []int{0, 1, 15, 16, 17, 33, 100}

// isOpened fails the test, if what is sealed isn't opened to a text.
func isOpened(t *testing.T, what string, s api.Secret, n int64, more, sealed, want []byte) {
	t.Helper()
	if got, e := keys.Open(s, n, more, sealed); e != api.OK || !bytes.Equal(got, want) {
		t.Errorf("%s: Open of the number %d = %x, %d, want %x", what, n, got, e, want)
	}
}

// isNotOpened fails the test, if bytes are opened, or told by another error, or any text stands beside it.
func isNotOpened(t *testing.T, what string, s api.Secret, n int64, more, sealed []byte, want api.Errno) {
	t.Helper()
	if got, e := keys.Open(s, n, more, sealed); e != want || len(got) != 0 {
		t.Errorf("%s: Open of the number %d = %x, %d, want none and %d", what, n, got, e, want)
	}
}

// P10.1

// TestMakeOfTheStandardsSecrets has the keys and ivs that RFC 9001 tells of, and what follows a secret there (Appendix A.5); the rest was reckoned by another program.
func TestMakeOfTheStandardsSecrets(t *testing.T) {
	for _, x := range []struct{ secret, key, iv, next string }{
		{clients, "1f369613dd76d5467730efcbe3b1a22d", "fa044b2f42a3fd3b46fb255c", "4428ffa195ad665b9ebf9456945b99e8ff848512cab93d0426436409047d666c"},
		{servers, "cf3a5331653c364c88f0f379b6067e37", "0ac1493ca1905853b0bba03e", "ae372bd4e82a5284eac04299b656bf1a0f8aafb43fe9dc4937fa071c81379756"},
		{another, "9fb6e916b1f4c52251f01dc6677600b8", "e0459b3474bdd0e44a41c144", "1223504755036d556342ee9361d253421a826c9ecdf3c7148684b36b714881f9"},
		{zeros, "493b6205f5047533465623eb848cc55a", "cffff10d6d6d9fd79e88938a", "53dd8c90e78fc6ea92864f791865be060d933be0824befcb2b59ac901f306035"},
	} {
		for _, phase := range []bool{false, true} {
			want := api.Secret{
				Key:   [16]byte(hexed(t, x.key)),
				Iv:    [12]byte(hexed(t, x.iv)),
				Next:  secretOf(t, x.next),
				Phase: phase,
			}
			if got := keys.Make(secretOf(t, x.secret), phase); got != want {
				t.Errorf("Make(%s, %t) = %v, want %v", x.secret, phase, got, want)
			}
		}
	}
}

// TestMakeIsOfLabels has keys put together by layer 7, as the chapter's text has it.
func TestMakeIsOfLabels(t *testing.T) {
	for i := range 100 {
		secret := hash.Sum(text(byte(i), i))
		for _, phase := range []bool{false, true} {
			s := keys.Make(secret, phase)
			if !bytes.Equal(s.Key[:], hash.Label(secret, "quic key", 16)) {
				t.Errorf("Make(%x, %t): the Key is %x", secret, phase, s.Key)
			}
			if !bytes.Equal(s.Iv[:], hash.Label(secret, "quic iv", 12)) {
				t.Errorf("Make(%x, %t): the Iv is %x", secret, phase, s.Iv)
			}
			if !bytes.Equal(s.Next[:], hash.Label(secret, "quic ku", 32)) {
				t.Errorf("Make(%x, %t): Next is %x", secret, phase, s.Next)
			}
			if s.Phase != phase {
				t.Errorf("Make(%x, %t): the phase is %t", secret, phase, s.Phase)
			}
		}
	}
}

func TestUpdateIsOfTheNextSecretInTheOtherPhase(t *testing.T) {
	for _, secret := range []string{clients, servers, another, zeros} {
		for _, phase := range []bool{false, true} {
			s := keys.Make(secretOf(t, secret), phase)
			for range 20 {
				got, want := keys.Update(s), keys.Make(s.Next, !s.Phase)
				if got != want {
					t.Fatalf("Update(%v) = %v, want %v", s, got, want)
				}
				if got.Key == s.Key || got.Iv == s.Iv || got.Next == s.Next || got.Phase == s.Phase {
					t.Fatalf("Update(%v) = %v: something is as it was", s, got)
				}
				s = got
			}
		}
	}
}

// TestUpdateLooksAtNextAndPhaseAlone has keys that aren't of one secret.
func TestUpdateLooksAtNextAndPhaseAlone(t *testing.T) {
	next := secretOf(t, another)
	for _, phase := range []bool{false, true} {
		want := keys.Make(next, !phase)
		for _, s := range []api.Secret{
			{Next: next, Phase: phase},
			{Key: [16]byte(text(1, 16)), Next: next, Phase: phase},
			{Iv: [12]byte(text(1, 12)), Next: next, Phase: phase},
		} {
			if got := keys.Update(s); got != want {
				t.Errorf("Update(%v) = %v, want %v", s, got, want)
			}
		}
	}
	if got, want := keys.Update(api.Secret{}), keys.Make(api.Hash{}, true); got != want {
		t.Errorf("Update of zero keys = %v, want %v", got, want)
	}
}

// TestFirstSecrets has what another program reckoned.
func TestFirstSecrets(t *testing.T) {
	for _, x := range []struct {
		cid            []byte
		client, server string
	}{
		{nil, "181c55eef299c1be55a0d8f8187763c7814ab8b20533e8f70496a996b9d88c72", "9a2087fb320de0c966be7f5d3920417f1959309674ab518124fa09b16c067f52"},
		{[]byte{}, "181c55eef299c1be55a0d8f8187763c7814ab8b20533e8f70496a996b9d88c72", "9a2087fb320de0c966be7f5d3920417f1959309674ab518124fa09b16c067f52"},
		{[]byte("12345678"), "aae152170568411b7822899f8f0c517af32695ef4aedff34ba863bc3f2881b16", "260a4d64cc999d0fdcdbfeec9d64c4bca97f2811090b805426489438cbc2ecba"},
		{hexed(t, "8394c8f03e515708"), "9405a995c126773a38cb84515dacd685ab70a3979365aa61f619183a70d65901", "7a86072ce9d96946972cb400bac05f03e6aab2eef7642d58b007570e5d5f8557"},
		{text(0, 20), "2404cc561e4c89dabb70eaeb70130d71167a8b9a3530a6d9b45858da6134a13b", "65d7ffa047618c9aa26c3c16565b23cca7a7d927a65db826459d49200820b83c"},
		{make([]byte, 100), "222e9736d92fa4dd73721d806b7d62624681160ed86851de30696c6905e877cc", "2816e35b005f35dfe2e2d987318bcbcd39fb8153805d864330204a8e7974f6a2"},
	} {
		client, server := keys.First(x.cid)
		if client != secretOf(t, x.client) || server != secretOf(t, x.server) {
			t.Errorf("First(%x) = %x, %x, want %s, %s", x.cid, client, server, x.client, x.server)
		}
	}
}

// TestFirstSecretsAreOfLabels has first secrets put together by layer 7, as the chapter's text has it.
func TestFirstSecretsAreOfLabels(t *testing.T) {
	for n := range 100 {
		cid := text(9, n)
		secret := hash.Extract([]byte("doorward first salt.."), cid)
		client, server := keys.First(cid)
		if !bytes.Equal(client[:], hash.Label(secret, "client in", 32)) {
			t.Errorf("First(%x): the client's secret is %x", cid, client)
		}
		if !bytes.Equal(server[:], hash.Label(secret, "server in", 32)) {
			t.Errorf("First(%x): the server's secret is %x", cid, server)
		}
	}
}

func TestFirstSecretsHangOnTheWholeId(t *testing.T) {
	told := map[api.Hash]int{}
	tell := func(cid []byte) {
		client, server := keys.First(cid)
		told[client]++
		told[server]++
	}
	for n := range 21 {
		cid := text(9, n)
		tell(cid)
		for bit := range 8 * n {
			cid[bit/8] ^= 1 << (bit % 8)
			tell(cid)
			cid[bit/8] ^= 1 << (bit % 8)
		}
	}
	for secret, times := range told {
		if times != 1 {
			t.Errorf("%x is the secret of %d", secret, times)
		}
	}
}

// TestLaterSecrets has what another program reckoned.
func TestLaterSecrets(t *testing.T) {
	long := text(0, 100)
	for _, x := range []struct {
		client, server           []byte
		clientWanted, serverOnes string
	}{
		{nil, nil, "a58711c83368009ee175e9de8a51b94eabbc7fa9deefb3da87fc1b24548dbecc", "11e3de939b5782042761935026aa358f3563acb7cb6c287bad0d93cd55234ef2"},
		{[]byte("a"), []byte("b"), "09032be3de05fd99ff6dcc074dc10ecd2ca40e30b66da0a046a4e20c19030366", "d6937824bcc1b1586729b629a62946e0b7d40a847fea68b93e0429f19d935eca"},
		{[]byte("b"), []byte("a"), "90a22c8d9d980dae6bd3baace05d27dba0cc02f12c8cb5002cac8a1ae96ed9bb", "0939824a5a287b702be4a754fda17b3c25c1c6ab037a9d6f8d97180423ad530b"},
		{[]byte("abc"), long, "4d7f1f40a0d568a63013b0014ab33879eb6b347ab5f4377c202619d3143e0f92", "7287f203dd1833ceaef5a3521ef4c9a36d569f837d6d60c7869962b5a82b2b57"},
		{long, []byte("abc"), "667196dac20a60d6debb6716649369bf4f4e3c728a29faa02712cc19b3d756ea", "55c999004875ec70f6746cbbd3386cf438e4f910a5328351e947cbf4b0c2d7f9"},
		{[]byte("ab"), []byte{}, "938782211037842069403656864ebb24e61f8d0c41b90237ed4e6dbe3453a9c2", "2dfbc160990c064cf740aa675194c9f8eb5fc77ea5fe5905de3a038952544c24"},
		{[]byte{}, []byte("ab"), "684e4ad7ecef780724b07f2d7ed19b79fa6f79d6f54efa7d177508947a1cc852", "8dae8a8d02e5c3258eda49ce4eb7ac545bc5190ead726b50dc2ce56aae156d5a"},
	} {
		client, server := keys.Later(x.client, x.server)
		if client != secretOf(t, x.clientWanted) || server != secretOf(t, x.serverOnes) {
			t.Errorf("Later(%x, %x) = %x, %x, want %s, %s", x.client, x.server, client, server, x.clientWanted, x.serverOnes)
		}
	}
}

// TestLaterSecretsAreOfLabels has secrets behind a handshake put together by layer 7, as the chapter's text has it.
func TestLaterSecretsAreOfLabels(t *testing.T) {
	for _, size := range edges {
		for _, n := range edges {
			secret := hash.Extract(text(3, size), text(7, n))
			client, server := keys.Later(text(3, size), text(7, n))
			if !bytes.Equal(client[:], hash.Label(secret, "c ap traffic", 32)) {
				t.Errorf("texts of %d and %d bytes: the client's secret is %x", size, n, client)
			}
			if !bytes.Equal(server[:], hash.Label(secret, "s ap traffic", 32)) {
				t.Errorf("texts of %d and %d bytes: the server's secret is %x", size, n, server)
			}
		}
	}
}

func TestLaterSecretsHangOnWhoseTextItIs(t *testing.T) {
	told := map[api.Hash]int{}
	for size := range 5 {
		for n := range 5 {
			client, server := keys.Later(text(1, size), text(1, n))
			told[client]++
			told[server]++
		}
	}
	for secret, times := range told {
		if times != 1 {
			t.Errorf("%x is the secret of %d", secret, times)
		}
	}
}

// TestSealAndOpenOfTheStandards has the first packet of a server, its number 1 (RFC 9001, Appendix A.3).
func TestSealAndOpenOfTheStandards(t *testing.T) {
	s := keys.Make(secretOf(t, servers), false)
	more := hexed(t, "c1000000010008f067a5502a4262b50040750001")
	b := hexed(t, "02000000000600405a020000560303eefce7f7b37ba1d1632e96677825ddf73988cfc79825df566dc5430b9a045a1200130100002e00330024001d00209d3c940d89690b84d08a60993c144eca684d1081287c834d5311bcf32bb9da1a002b00020304")
	want := hexed(t, "5a482cd0991cd25b0aac406a5816b6394100f37a1c69797554780bb38cc5a99f5ede4cf73c3ec2493a1839b3dbcba3f6ea46c5b7684df3548e7ddeb9c3bf9c73cc3f3bded74b562bfb19fb84022f8ef4cdd93795d77d06edbb7aaf2f58891850abbdca3d20398c276456cbc42158407dd074ee")
	if got := keys.Seal(s, 1, more, b); !bytes.Equal(got, want) {
		t.Errorf("Seal = %x, want %x", got, want)
	}
	isOpened(t, "a server's first packet", s, 1, more, want, b)
}

// TestSealIsByTheNumbersNonce has packets sealed by layer 9, by an iv that is xored by hand.
func TestSealIsByTheNumbersNonce(t *testing.T) {
	ones := api.Secret{Key: [16]byte(text(3, 16)), Iv: [12]byte(bytes.Repeat([]byte{0xff}, 12))}
	for _, s := range []api.Secret{{}, ones, keys.Make(secretOf(t, clients), false), keys.Make(secretOf(t, another), true)} {
		for _, x := range numbers {
			nonce := s.Iv
			for i, b := range hexed(t, x.xored) {
				nonce[i] ^= b
			}
			for _, size := range edges {
				more, b := text(3, size), text(7, 100-size)
				want := gcm.Seal(s.Key, nonce, more, b)
				if got := keys.Seal(s, x.n, more, b); !bytes.Equal(got, want) {
					t.Errorf("the number %d: Seal = %x, want %x", x.n, got, want)
				}
				isOpened(t, "what layer 9 sealed", s, x.n, more, want, b)
			}
		}
	}
}

func TestSealLooksAtKeyAndIvAlone(t *testing.T) {
	s := keys.Make(secretOf(t, clients), false)
	other := s
	other.Next, other.Phase = secretOf(t, another), true
	sealed := keys.Seal(s, 5, text(3, 5), text(7, 33))
	if got := keys.Seal(other, 5, text(3, 5), text(7, 33)); !bytes.Equal(got, sealed) {
		t.Errorf("with another secret to follow, in the other phase: Seal = %x, want %x", got, sealed)
	}
	isOpened(t, "with another secret to follow, in the other phase", other, 5, text(3, 5), sealed, text(7, 33))
}

func TestOpenOfTooFewBytes(t *testing.T) {
	s := keys.Make(secretOf(t, clients), false)
	isNotOpened(t, "no list", s, 0, nil, nil, api.ErrShort)
	for n := range 16 {
		isNotOpened(t, "bytes 0", s, 0, nil, make([]byte, n), api.ErrShort)
		isNotOpened(t, "a sealed text, cut short", s, 1, text(3, 20), keys.Seal(s, 1, text(3, 20), text(7, 33))[:n], api.ErrShort)
	}
	isNotOpened(t, "16 bytes 0", s, 0, nil, make([]byte, 16), api.ErrAuth)
}

func TestNothingIsOpenedWithOneBitTurned(t *testing.T) {
	s := keys.Make(secretOf(t, clients), false)
	for _, x := range numbers {
		more, b := text(3, 17), text(7, 20)
		sealed := keys.Seal(s, x.n, more, b)
		for what, part := range map[string][]byte{"what is sealed": sealed, "more": more, "the Key": s.Key[:], "the Iv": s.Iv[:]} {
			for bit := range 8 * len(part) {
				part[bit/8] ^= 1 << (bit % 8)
				isNotOpened(t, what+" turned", s, x.n, more, sealed, api.ErrAuth)
				part[bit/8] ^= 1 << (bit % 8)
			}
		}
		for bit := range 64 {
			isNotOpened(t, "the number turned", s, x.n^1<<bit, more, sealed, api.ErrAuth)
		}
		isOpened(t, "with all turned back", s, x.n, more, sealed, b)
	}
}

func TestCallsChangeNothing(t *testing.T) {
	s := keys.Make(secretOf(t, clients), false)
	kept := s
	for _, n := range edges {
		first, firstMemory := withRoom(text(3, n))
		second, secondMemory := withRoom(text(7, n))
		unchanged := func(what string) {
			t.Helper()
			isUnchanged(t, what, firstMemory, text(3, n))
			isUnchanged(t, what, secondMemory, text(7, n))
		}
		client, server := keys.First(first)
		wantClient, wantServer := keys.First(text(3, n))
		if client != wantClient || server != wantServer {
			t.Errorf("%d bytes: other first secrets in other memory", n)
		}
		unchanged("First")
		client, server = keys.Later(first, second)
		wantClient, wantServer = keys.Later(text(3, n), text(7, n))
		if client != wantClient || server != wantServer {
			t.Errorf("%d bytes: other secrets behind a handshake in other memory", n)
		}
		unchanged("Later")
		sealed := keys.Seal(s, 9, first, second)
		unchanged("Seal")
		again, sealedMemory := withRoom(sealed)
		if b, e := keys.Open(s, 9, first, again); e != api.OK || !bytes.Equal(b, text(7, n)) {
			t.Errorf("%d bytes: opened in other memory as %x, %d", n, b, e)
		}
		unchanged("Open")
		isUnchanged(t, "Open", sealedMemory, sealed)
		// Nor may they be changed where nothing is opened.
		keys.Open(s, 10, first, again)
		unchanged("Open that fails")
		isUnchanged(t, "Open that fails", sealedMemory, sealed)
	}
	if s != kept {
		t.Error("keys were changed")
	}
}

func TestSealAndOpenAnswerNewMemory(t *testing.T) {
	s := keys.Make(secretOf(t, clients), false)
	for _, n := range edges {
		more, moreMemory := withRoom(text(3, n))
		b, memory := withRoom(text(7, n))
		sealed := keys.Seal(s, 9, more, b)
		want := bytes.Clone(sealed)
		spoil(sealed)
		if !bytes.Equal(keys.Seal(s, 9, more, b), want) {
			t.Errorf("%d bytes: what is sealed hangs on what became of another answer", n)
		}
		again, sealedMemory := withRoom(want)
		opened, _ := keys.Open(s, 9, more, again)
		spoil(opened)
		isOpened(t, "behind an answer that was written to", s, 9, more, again, text(7, n))
		isUnchanged(t, "more", moreMemory, text(3, n))
		isUnchanged(t, "a text", memory, text(7, n))
		isUnchanged(t, "what was sealed", sealedMemory, want)
	}
}
