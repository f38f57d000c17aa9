package hframe_test

import (
	"bytes"
	"slices"
	"strings"
	"testing"

	"doorward/api"
	"doorward/hframe"
	"doorward/varint"
)

// a60, a200 are texts of as many bytes.
var a60, a200 = strings.Repeat("a", 60), strings.Repeat("A", 200)

// sections are right fields, and their sections, written by hand.
var sections = []struct {
	what string
	l    []api.Field
	b    []byte
}{
	{"none", nil, nil},
	{"one", []api.Field{{Name: "a", Value: "b"}}, []byte("\x20\x01a\x01b")},
	{"one without a value", []api.Field{{Name: "a"}}, []byte("\x20\x01a\x00")},
	{"several", []api.Field{{Name: ":method", Value: "GET"}, {Name: ":path", Value: "/"}, {Name: "x", Value: ""}}, []byte("\x20\x07:method\x03GET\x20\x05:path\x01/\x20\x01x\x00")},
	{"the same twice", []api.Field{{Name: "a", Value: "b"}, {Name: "a", Value: "b"}}, []byte("\x20\x01a\x01b\x20\x01a\x01b")},
	{"the same name twice", []api.Field{{Name: "b", Value: "2"}, {Name: "a", Value: "1"}, {Name: "b", Value: "1"}}, []byte("\x20\x01b\x012\x20\x01a\x011\x20\x01b\x011")},
	{"a value of 63", []api.Field{{Name: "a", Value: a200[:63]}}, join(0x20, 1, "a", 63, a200[:63])},
	{"a value of 64", []api.Field{{Name: "a", Value: a200[:64]}}, join(0x20, 1, "a", 0x40, 64, a200[:64])},
	{"the longest", []api.Field{{Name: a60, Value: a200}}, join(0x20, 60, a60, 0x40, 200, a200)},
	{"bytes about A and Z", []api.Field{{Name: "@[`{az", Value: "@AZ[`{az"}}, []byte("\x20\x06@[`{az\x08@AZ[`{az")},
	{"bytes like those ahead of a field", []api.Field{{Name: " \x01a\x01", Value: " \x01a\x01b"}}, []byte("\x20\x04 \x01a\x01\x05 \x01a\x01b")},
	{"bytes that are no text", []api.Field{{Name: "\x00\xff\xc1\x81", Value: "\x00\xff\xc1\x81"}}, []byte("\x20\x04\x00\xff\xc1\x81\x04\x00\xff\xc1\x81")},
	{"letters of others than A to Z", []api.Field{{Name: "ÄÖÜ", Value: "ÄÖÜ"}}, join(0x20, 6, "ÄÖÜ", 6, "ÄÖÜ")},
}

// fieldsOf are so many right fields, none like another one.
func fieldsOf(n int) []api.Field {
	l := make([]api.Field, n)
	for i := range l {
		l[i] = api.Field{Name: "n" + string(text('a', 1+i%26)), Value: string(text(byte(i), i%9))}
	}
	return l
}

// P6.3

// unpacks fails the test, if other fields are unpacked.
func unpacks(t *testing.T, what string, b []byte, want []api.Field) {
	t.Helper()
	if l, e := hframe.Unpack(b); !slices.Equal(l, want) || e != api.OK {
		t.Errorf("%s: Unpack(%x) = %q, %d, want %q, OK", what, b, l, e, want)
	}
}

// unpacksNone fails the test, if bytes aren't told as wrong by that error, or fields are told beside it.
func unpacksNone(t *testing.T, what string, b []byte, want api.Errno) {
	t.Helper()
	if l, e := hframe.Unpack(b); len(l) != 0 || e != want {
		t.Errorf("%s: Unpack(%x) = %q, %d, want none, %d", what, b, l, e, want)
	}
}

// section is the section of fields, right or not.
func section(l []api.Field) []byte {
	var b []byte
	for _, f := range l {
		b = join(b, 0x20, varint.Put(uint64(len(f.Name))), f.Name, varint.Put(uint64(len(f.Value))), f.Value)
	}
	return b
}

// arePacked fails the test, if fields aren't right, or have another section.
func arePacked(t *testing.T, what string, l []api.Field, want []byte) {
	t.Helper()
	if !hframe.Fields(l) {
		t.Errorf("%s: %q aren't right", what, l)
	}
	if b := hframe.Pack(l); !bytes.Equal(b, want) {
		t.Errorf("%s: Pack(%q) = %x, want %x", what, l, b, want)
	}
	unpacks(t, what, want, l)
}

// areNotPacked fails the test, if fields are right, or have a section, or such a section can be unpacked.
func areNotPacked(t *testing.T, what string, l []api.Field) {
	t.Helper()
	if hframe.Fields(l) {
		t.Errorf("%s: %q are right", what, l)
	}
	if b := hframe.Pack(l); len(b) != 0 {
		t.Errorf("%s: Pack(%q) = %x, want none", what, l, b)
	}
	unpacksNone(t, what, section(l), api.ErrForm)
}

func TestSections(t *testing.T) {
	for _, x := range sections {
		arePacked(t, x.what, x.l, x.b)
	}
	arePacked(t, "an empty list", []api.Field{}, nil)
	unpacks(t, "no byte", []byte{}, nil)
	unpacks(t, "no byte, but spare room", []byte{0x20}[:0], nil)
}

func TestHowManyFields(t *testing.T) {
	for n := range 80 {
		if l := fieldsOf(n); n <= 32 {
			arePacked(t, "not too many", l, section(l))
		} else {
			areNotPacked(t, "too many", l)
		}
	}
	areNotPacked(t, "far too many", fieldsOf(32+256))
	areNotPacked(t, "33 of the same", slices.Repeat(fieldsOf(1), 33))
}

func TestHowManyBytesFieldsHave(t *testing.T) {
	for n := range 600 {
		b := bytes.Repeat([]byte{'q'}, n)
		for _, l := range [][]api.Field{{{Name: string(b), Value: "v"}}, {{Name: "n", Value: "v"}, {Name: string(b)}}} {
			if 1 <= n && n <= 60 {
				arePacked(t, "a name", l, section(l))
			} else {
				areNotPacked(t, "no name, or one that is too long", l)
			}
		}
		for _, l := range [][]api.Field{{{Name: "n", Value: string(b)}}, {{Name: "n", Value: "v"}, {Name: "m", Value: string(b)}}} {
			if n <= 200 {
				arePacked(t, "a value", l, section(l))
			} else {
				areNotPacked(t, "a value that is too long", l)
			}
		}
	}
	areNotPacked(t, "a name of 2^16 and 1", []api.Field{{Name: strings.Repeat("q", 1<<16+1)}})
	areNotPacked(t, "a value of 2^16", []api.Field{{Name: "n", Value: strings.Repeat("q", 1<<16)}})
	areNotPacked(t, "a zero one", []api.Field{{}})
	areNotPacked(t, "a zero one in between", []api.Field{{Name: "n"}, {}, {Name: "n"}})
}

func TestEachByteInAName(t *testing.T) {
	for i := range 256 {
		b := string([]byte{byte(i)})
		for _, name := range []string{b, b + "a", "a" + b, "a" + b + "a", "\xc3" + b, "\xe2" + b + "a", strings.Repeat("a", 59) + b} {
			l := []api.Field{{Name: "n", Value: "v"}, {Name: name, Value: "v"}}
			if 'A' <= i && i <= 'Z' {
				areNotPacked(t, "from A to Z", l)
				areNotPacked(t, "from A to Z, ahead", []api.Field{l[1], l[0]})
			} else {
				arePacked(t, "another one", l, section(l))
			}
			l = []api.Field{{Name: "n", Value: name}}
			arePacked(t, "in a value", l, section(l))
		}
	}
}

func TestEachByteAheadOfAField(t *testing.T) {
	for i := range 256 {
		for _, behind := range []string{"", "\x01", "\x01a", "\x01a\x00", "\x01a\x01b", "\x00\x00", "\x01a\x05b", "\x01A\x00", "\xff"} {
			if b := join(i, behind); i != 0x20 {
				unpacksNone(t, "another byte", b, api.ErrForm)
				unpacksNone(t, "another byte, fields behind", join(b, sections[3].b), api.ErrForm)
				for _, x := range sections {
					unpacksNone(t, "another byte, fields ahead", join(x.b, b), api.ErrForm)
				}
			}
		}
	}
	unpacksNone(t, "another byte behind wrong fields", []byte("\x20\x01A\x00\x21"), api.ErrForm)
	unpacksNone(t, "another byte behind 32 fields", join(section(fieldsOf(32)), 0), api.ErrForm)
	unpacksNone(t, "another byte behind 33 fields", join(section(fieldsOf(33)), 0), api.ErrForm)
}

func TestSectionsThatAreCutOff(t *testing.T) {
	lists := [][]api.Field{fieldsOf(32), {{Name: a60, Value: a200}, {Name: a60, Value: a200}}}
	for _, x := range sections {
		lists = append(lists, x.l)
	}
	for _, l := range lists {
		b, whole := section(l), 0
		for n := range b {
			if n == len(section(l[:whole])) {
				unpacks(t, "between two fields", b[:n], l[:whole])
				whole++
			} else {
				unpacksNone(t, "cut off", b[:n], api.ErrShort)
			}
		}
	}
}

func TestWhatIsNotThereGoesAheadOfWhatIsNotRight(t *testing.T) {
	for what, ahead := range map[string][]byte{
		"a letter from A to Z":         []byte("\x20\x01A\x00"),
		"no name":                      []byte("\x20\x00\x00"),
		"a name that is too long":      section([]api.Field{{Name: a60 + "a"}}),
		"a value that is too long":     section([]api.Field{{Name: "a", Value: a200 + "a"}}),
		"as many as there may be":      section(fieldsOf(32)),
		"too many":                     section(fieldsOf(33)),
		"far too many":                 section(fieldsOf(100)),
		"too many, one of them is not": join(section(fieldsOf(40)), "\x20\x01A\x00"),
	} {
		for _, b := range []string{"\x20", "\x20\x01", "\x20\x01a", "\x20\x01a\x01", "\x20\x00", "\x20\x01A", "\x20\x40", "\x20\x01a\xc0"} {
			unpacksNone(t, what, join(ahead, b), api.ErrShort)
		}
	}
	unpacksNone(t, "right fields alone, 32 and 1", join(section(fieldsOf(32)), section(fieldsOf(1))), api.ErrForm)
}

func TestFieldsCountsOfMoreThanThereAre(t *testing.T) {
	for _, count := range []uint64{2, 60, 61, 63, 64, 200, 201, 1 << 31, 1<<31 + 1, 1 << 32, 1<<32 + 1, 1 << 61, api.MaxInt} {
		unpacksNone(t, "a name", join(0x20, varint.Put(count), "a"), api.ErrShort)
		unpacksNone(t, "a name, none of it", join(0x20, varint.Put(count)), api.ErrShort)
		unpacksNone(t, "a value", join(0x20, 1, "a", varint.Put(count), "a"), api.ErrShort)
		unpacksNone(t, "a value, none of it", join(0x20, 1, "a", varint.Put(count)), api.ErrShort)
	}
}

func TestFieldsCountsInLongerBytes(t *testing.T) {
	for _, wide := range []int{1, 2, 4, 8} {
		for _, other := range []int{1, 2, 4, 8} {
			b := join(0x20, varint.Wide(1, wide), "a", varint.Wide(2, other), "bc")
			want := api.Field{Name: "a", Value: "bc"}
			unpacks(t, "alone", b, []api.Field{want})
			unpacks(t, "twice", join(b, b), []api.Field{want, want})
			for n := 1; n < len(b); n++ {
				unpacksNone(t, "cut off", b[:n], api.ErrShort)
				unpacksNone(t, "cut off, behind another one", join(b, b[:n]), api.ErrShort)
			}
			unpacks(t, "no value", join(0x20, varint.Wide(1, wide), "a", varint.Wide(0, other)), []api.Field{{Name: "a"}})
			unpacksNone(t, "no name", join(0x20, varint.Wide(0, wide), varint.Wide(0, other)), api.ErrForm)
		}
	}
}

func TestFieldsNeitherChangeNorKeepWhatIsHandedIn(t *testing.T) {
	for _, x := range sections {
		list := append(slices.Clone(x.l), fieldsOf(3)...)
		before := slices.Clone(list)
		b, again := hframe.Pack(list[:len(x.l)]), hframe.Pack(list[:len(x.l)])
		spoil(again)
		hframe.Fields(list[:len(x.l)])
		if !slices.Equal(list, before) {
			t.Errorf("%s: what was packed is changed: %q", x.what, list)
		}
		clear(list)
		if !bytes.Equal(b, x.b) || !bytes.Equal(hframe.Pack(x.l), x.b) {
			t.Errorf("%s: a section hangs on what became of other memory: %x", x.what, b)
		}
		memory := join(x.b, "spare room")
		ahead := bytes.Clone(memory)
		l, _ := hframe.Unpack(memory[:len(x.b)])
		other, _ := hframe.Unpack(memory[:len(x.b)])
		clear(other[:cap(other)])
		if !bytes.Equal(memory, ahead) {
			t.Errorf("%s: what was unpacked is changed: %x", x.what, memory)
		}
		spoil(memory)
		if !slices.Equal(l, x.l) {
			t.Errorf("%s: fields hang on what became of other memory: %q", x.what, l)
		}
	}
}
