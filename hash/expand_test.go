package hash_test

import (
	"bytes"
	"math"
	"slices"
	"strings"
	"testing"

	"doorward/api"
	"doorward/hash"
)

// wrongSizes are those that nothing is expanded to. Of some the low byte, or the low two, is a size.
var wrongSizes = []int{-1, -2, -16, -32, -255, -256, -240, 256, 257, 272, 288, 511, 512, 1000, 8160, 8161, 1 << 16, 1<<16 + 16, math.MinInt32, math.MaxInt32, math.MinInt, math.MinInt + 16, math.MaxInt - 31, math.MaxInt}

// sizes are the edges of those that there are, and others.
var sizes = []int{0, 1, 2, 16, 31, 32, 33, 42, 63, 64, 65, 82, 96, 97, 128, 223, 224, 225, 254, 255}

// P7.2

// TestExpandOfTheStandardsSecrets has what RFC 5869's tests extract and expand.
func TestExpandOfTheStandardsSecrets(t *testing.T) {
	for _, x := range []struct {
		what              string
		salt, input, info []byte
		secret, want      string
	}{
		{"1", text(0, 13), same(0x0b, 22), text(0xf0, 10),
			"077709362c2e32df0ddc3f0dc47bba6390b6c73bb50f9c3122ec844ad7c2b3e5",
			"3cb25f25faacd57a90434f64d0362f2a2d2d0a90cf1a5a4c5db02d56ecc4c5bf34007208d5b887185865"},
		{"2", text(0x60, 80), text(0, 80), text(0xb0, 80),
			"06a6b88c5853361a06104c9ceb35b45cef760014904671014a193f40c15fc244",
			"b11e398dc80327a1c8e7f78c596a49344f012eda2d4efad8a050cc4c19afa97c59045a99cac7827271cb41c65e590e09da3275600c2f09b8367793a9aca3db71cc30c58179ec3e87c14c01d5c1f3434f1d87"},
		{"3", nil, same(0x0b, 22), nil,
			"19ef24a32c717b167f33a91d6f648bdf96596776afdb6377ac434c1c293ccb04",
			"8da4e775a563c18f715f802a063c5a31b8a11f5c5ee1879ec3454e5f3c738d2d9d201395faa4b61a96c8"},
	} {
		secret, want := hash.Extract(x.salt, x.input), hexed(t, x.want)
		if !bytes.Equal(secret[:], hexed(t, x.secret)) {
			t.Errorf("%s: Extract = %x, want %s", x.what, secret, x.secret)
		}
		if got := hash.Expand(secret, x.info, len(want)); !bytes.Equal(got, want) {
			t.Errorf("%s: Expand = %x, want %x", x.what, got, want)
		}
	}
}

// TestExpandIsOfTags has what is expanded put together by Tag, as the chapter's text has it.
func TestExpandIsOfTags(t *testing.T) {
	secret := examplesSecret(t)
	for _, info := range [][]byte{nil, {0}, {1}, []byte("info"), text(0xf0, 10), text(0, 300)} {
		var all, ahead []byte
		for i := 1; i <= 8; i++ {
			tag := hash.Tag(secret[:], slices.Concat(ahead, info, []byte{byte(i)}))
			ahead = tag[:]
			all = append(all, ahead...)
		}
		for n := range 256 {
			if got := hash.Expand(secret, info, n); !bytes.Equal(got, all[:n]) {
				t.Errorf("info %x: Expand to %d = %x, want %x", info, n, got, all[:n])
			}
		}
	}
}

func TestExpandToHowManyBytes(t *testing.T) {
	for _, secret := range []api.Hash{{}, examplesSecret(t)} {
		for _, info := range [][]byte{nil, {}, []byte("info")} {
			for n := range 256 {
				if got := hash.Expand(secret, info, n); len(got) != n {
					t.Errorf("Expand to %d: %d bytes", n, len(got))
				}
			}
			for _, n := range wrongSizes {
				if got := hash.Expand(secret, info, n); len(got) != 0 {
					t.Errorf("Expand to %d: %d bytes, want none", n, len(got))
				}
			}
		}
	}
}

func TestExpandHangsOnSecretAndInfo(t *testing.T) {
	secret, info := examplesSecret(t), []byte("info")
	first := hash.Expand(secret, info, 255)
	for i := range secret {
		other := secret
		other[i] ^= 1
		if bytes.Equal(hash.Expand(other, info, 255), first) {
			t.Errorf("the byte %d of a secret is nothing to Expand", i)
		}
	}
	for _, other := range [][]byte{nil, []byte("inf"), []byte("jnfo"), []byte("info\x00"), []byte("info\x01")} {
		got := hash.Expand(secret, other, 255)
		for i := 0; i+32 <= 224; i += 32 {
			if bytes.Equal(got[i:i+32], first[i:i+32]) {
				t.Errorf("%q is as info to Expand at %d", other, i)
			}
		}
	}
}

// TestLabelOfTheStandardsSecrets has what RFC 9001 derives of a connection's id, and of a secret (Appendix A.1 and A.5).
func TestLabelOfTheStandardsSecrets(t *testing.T) {
	initial := hash.Extract(hexed(t, "38762cf7f55934b34d179ae6a4c80cadccbb7f0a"), hexed(t, "8394c8f03e515708"))
	client := api.Hash(hexed(t, "c00cf151ca5be075ed0ebfb5c80323c42d6b7db67881289af4008f1f6c357aea"))
	server := api.Hash(hexed(t, "3c199828fd139efd216c155ad844cc81fb82fa8d7446fa7d78be803acdda951b"))
	another := api.Hash(hexed(t, "9ac312a7f877468ebe69422748ad00a15443f18203a07d6060f688f30f21632b"))
	for _, x := range []struct {
		secret api.Hash
		label  string
		want   string
	}{
		{initial, "client in", "c00cf151ca5be075ed0ebfb5c80323c42d6b7db67881289af4008f1f6c357aea"},
		{initial, "server in", "3c199828fd139efd216c155ad844cc81fb82fa8d7446fa7d78be803acdda951b"},
		{client, "quic key", "1f369613dd76d5467730efcbe3b1a22d"},
		{client, "quic iv", "fa044b2f42a3fd3b46fb255c"},
		{client, "quic hp", "9f50449e04a0e810283a1e9933adedd2"},
		{server, "quic key", "cf3a5331653c364c88f0f379b6067e37"},
		{server, "quic iv", "0ac1493ca1905853b0bba03e"},
		{server, "quic hp", "c206b8d9b9f0f37644430b490eeaa314"},
		{another, "quic ku", "1223504755036d556342ee9361d253421a826c9ecdf3c7148684b36b714881f9"},
	} {
		want := hexed(t, x.want)
		if got := hash.Label(x.secret, x.label, len(want)); !bytes.Equal(got, want) {
			t.Errorf("Label %q = %x, want %s", x.label, got, x.want)
		}
	}
}

// labels are of several lengths, the chapter's edges among them, with the byte that tells how long the text is.
var labels = []struct {
	label string
	count byte
}{
	{"", 6},
	{"k", 7},
	{"key", 9},
	{"\x00", 7},
	{"tls13 ", 12},
	{"\xff\x80 ü", 11},
	{strings.Repeat("x", 59), 65},
	{strings.Repeat("x", 60), 66},
	{strings.Repeat("ü", 30), 66},
}

func TestLabelIsExpandedByItsText(t *testing.T) {
	for _, secret := range []api.Hash{{}, examplesSecret(t)} {
		for _, x := range labels {
			for _, n := range sizes {
				info := append([]byte{0, byte(n), x.count}, "tls13 "+x.label+"\x00"...)
				want := hash.Expand(secret, info, n)
				if got := hash.Label(secret, x.label, n); len(got) != n || !bytes.Equal(got, want) {
					t.Errorf("Label %q to %d = %x, want %x", x.label, n, got, want)
				}
			}
			for _, n := range wrongSizes {
				if got := hash.Label(secret, x.label, n); len(got) != 0 {
					t.Errorf("Label %q to %d: %d bytes, want none", x.label, n, len(got))
				}
			}
		}
	}
}

func TestLabelsThatAreTooLong(t *testing.T) {
	long := []string{strings.Repeat("ü", 31), strings.Repeat("x", 59) + "ü"}
	// With some of these, the text is so long that its low byte is a right one's.
	for _, n := range []int{61, 62, 63, 64, 100, 249, 250, 251, 255, 256, 260, 310, 311, 1000, 1 << 16} {
		long = append(long, strings.Repeat("x", n))
	}
	for _, label := range long {
		for _, n := range slices.Concat(sizes, wrongSizes) {
			if got := hash.Label(examplesSecret(t), label, n); len(got) != 0 {
				t.Errorf("Label of %d bytes to %d: %d bytes, want none", len(label), n, len(got))
			}
		}
	}
}

func TestLabelHangsOnItsLength(t *testing.T) {
	secret := examplesSecret(t)
	if bytes.Equal(hash.Label(secret, "key", 16), hash.Label(secret, "key", 32)[:16]) {
		t.Error("a label's bytes don't hang on how many are asked for")
	}
}

func TestExpandChangesNothing(t *testing.T) {
	secret := examplesSecret(t)
	for _, size := range []int{0, 1, 10, 80} {
		for _, n := range sizes {
			info, memory := withRoom(text(0xf0, size))
			got := hash.Expand(secret, info, n)
			isUnchanged(t, "an info", memory, text(0xf0, size))
			spoil(info)
			if !bytes.Equal(got, hash.Expand(secret, text(0xf0, size), n)) {
				t.Errorf("info of %d bytes, to %d: another answer in other memory", size, n)
			}
		}
	}
	if secret != examplesSecret(t) {
		t.Error("a secret was changed")
	}
}

func TestExpandAnswersNewMemory(t *testing.T) {
	secret := examplesSecret(t)
	for _, n := range sizes {
		for what, f := range map[string]func() []byte{
			"Expand": func() []byte { return hash.Expand(secret, []byte("info"), n) },
			"Label":  func() []byte { return hash.Label(secret, "key", n) },
		} {
			first, second := f(), f()
			want := bytes.Clone(second)
			spoil(first)
			if !bytes.Equal(second, want) || !bytes.Equal(f(), want) {
				t.Errorf("%s to %d: an answer hangs on what became of another one", what, n)
			}
		}
	}
}

// P7.3

func TestFewerBytesAreTheBeginningOfMore(t *testing.T) {
	for _, secret := range []api.Hash{{}, {31: 1}, examplesSecret(t)} {
		for _, info := range [][]byte{nil, {0}, []byte("info"), text(0, 64), text(0, 200)} {
			most := hash.Expand(secret, info, 255)
			for n := range 256 {
				if got := hash.Expand(secret, info, n); len(got) != n || !bytes.HasPrefix(most, got) {
					t.Errorf("to %d: %x isn't the beginning of %x", n, got, most)
				}
			}
		}
	}
}
