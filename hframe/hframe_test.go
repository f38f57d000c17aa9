package hframe_test

import (
	"bytes"
	"math"
	"slices"
	"testing"

	"doorward/api"
	"doorward/hframe"
	"doorward/varint"
)

// text is so many bytes from a first one on, each one more than the one ahead.
func text(first byte, n int) []byte {
	b := make([]byte, n)
	for i := range b {
		b[i] = first + byte(i)
	}
	return b
}

// join is bytes, single ones and texts, one behind the other.
func join(parts ...any) []byte {
	var b []byte
	for _, p := range parts {
		switch p := p.(type) {
		case int:
			b = append(b, byte(p))
		case string:
			b = append(b, p...)
		case []byte:
			b = append(b, p...)
		}
	}
	return b
}

// said is a frame's bytes: its kind, how many bytes follow, and these.
func said(kind uint64, own ...any) []byte {
	b := join(own...)
	return join(varint.Put(kind), varint.Put(uint64(len(b))), b)
}

// spoil writes to all of a slice's memory, its spare room included.
func spoil(b []byte) {
	b = b[:cap(b)]
	for i := range b {
		b[i] ^= 0xa5
	}
}

// many are so many settings, by numbers that may be, from the greatest of them down.
func many(n int) []api.Setting {
	l := make([]api.Setting, n)
	for i := range l {
		l[i] = api.Setting{Id: uint64(5 + n - i), Value: uint64(i)}
	}
	return l
}

// greatest is MaxInt's bytes.
var greatest = bytes.Repeat([]byte{255}, 8)

// examples are right frames, and their bytes, written by hand.
var examples = []struct {
	what string
	f    api.HFrame
	b    []byte
}{
	{"the document's", api.HFrame{Kind: api.HGoAway, Id: 4}, []byte{7, 1, 4}},
	{"Data of 0", api.HFrame{Kind: api.HData}, []byte{0, 0}},
	{"Data of 1", api.HFrame{Kind: api.HData, Data: []byte{9}}, []byte{0, 1, 9}},
	{"Data of a frame's bytes", api.HFrame{Kind: api.HData, Data: []byte{7, 1, 4}}, []byte{0, 3, 7, 1, 4}},
	{"Data of 63", api.HFrame{Kind: api.HData, Data: text(1, 63)}, join(0, 63, text(1, 63))},
	{"Data of 64", api.HFrame{Kind: api.HData, Data: text(1, 64)}, join(0, 0x40, 64, text(1, 64))},
	{"Data of 1,000", api.HFrame{Kind: api.HData, Data: text(1, 1000)}, join(0, 0x43, 0xe8, text(1, 1000))},
	{"Headers of 0", api.HFrame{Kind: api.HHeaders}, []byte{1, 0}},
	{"Headers", api.HFrame{Kind: api.HHeaders, Data: []byte("\x20\x01a\x01b")}, []byte("\x01\x05\x20\x01a\x01b")},
	{"Headers of what is no field section", api.HFrame{Kind: api.HHeaders, Data: []byte{0, 255}}, []byte{1, 2, 0, 255}},
	{"Headers of 1,000", api.HFrame{Kind: api.HHeaders, Data: text(7, 1000)}, join(1, 0x43, 0xe8, text(7, 1000))},
	{"Cancel of 0", api.HFrame{Kind: api.HCancel}, []byte{3, 1, 0}},
	{"Cancel", api.HFrame{Kind: api.HCancel, Id: 15293}, []byte{3, 2, 0x7b, 0xbd}},
	{"Cancel of MaxInt", api.HFrame{Kind: api.HCancel, Id: api.MaxInt}, join(3, 8, greatest)},
	{"Settings, none", api.HFrame{Kind: api.HSettings}, []byte{4, 0}},
	{"Settings, one", api.HFrame{Kind: api.HSettings, Settings: []api.Setting{{Id: 6, Value: 1000}}}, []byte{4, 3, 6, 0x43, 0xe8}},
	{"Settings, one of 0", api.HFrame{Kind: api.HSettings, Settings: []api.Setting{{Id: 1}}}, []byte{4, 2, 1, 0}},
	{"Settings, the greatest", api.HFrame{Kind: api.HSettings, Settings: []api.Setting{{Id: api.MaxInt, Value: api.MaxInt}}}, join(4, 16, greatest, greatest)},
	{"Settings, several, falling", api.HFrame{Kind: api.HSettings, Settings: []api.Setting{{Id: 64, Value: 1}, {Id: 8, Value: 64}, {Id: 7, Value: 3}, {Id: 1, Value: 3}}}, []byte{4, 10, 0x40, 64, 1, 8, 0x40, 64, 7, 3, 1, 3}},
	{"Settings, several, rising", api.HFrame{Kind: api.HSettings, Settings: []api.Setting{{Id: 1, Value: 3}, {Id: 7, Value: 3}, {Id: 64, Value: 1}}}, []byte{4, 7, 1, 3, 7, 3, 0x40, 64, 1}},
	{"Settings, 16", api.HFrame{Kind: api.HSettings, Settings: many(16)}, []byte{4, 32, 21, 0, 20, 1, 19, 2, 18, 3, 17, 4, 16, 5, 15, 6, 14, 7, 13, 8, 12, 9, 11, 10, 10, 11, 9, 12, 8, 13, 7, 14, 6, 15}},
	{"GoAway of 0", api.HFrame{Kind: api.HGoAway}, []byte{7, 1, 0}},
	{"GoAway of 64", api.HFrame{Kind: api.HGoAway, Id: 64}, []byte{7, 2, 0x40, 64}},
	{"GoAway of MaxInt", api.HFrame{Kind: api.HGoAway, Id: api.MaxInt}, join(7, 8, greatest)},
	{"MaxPush of 0", api.HFrame{Kind: api.HMaxPush}, []byte{13, 1, 0}},
	{"MaxPush of 2^30 less 1", api.HFrame{Kind: api.HMaxPush, Id: 1<<30 - 1}, []byte{13, 4, 0xbf, 255, 255, 255}},
	{"MaxPush of MaxInt", api.HFrame{Kind: api.HMaxPush, Id: api.MaxInt}, join(13, 8, greatest)},
}

// withData, withId are the kinds that have Data, Id.
var withData, withId = []int{api.HData, api.HHeaders}, []int{api.HCancel, api.HGoAway, api.HMaxPush}

// P6.1

// isRight fails the test, if a frame isn't right, or has other bytes.
func isRight(t *testing.T, what string, f api.HFrame, want []byte) {
	t.Helper()
	if !hframe.Right(f) {
		t.Errorf("%s: %+v isn't right", what, f)
	}
	if got := hframe.Put(f); !bytes.Equal(got, want) {
		t.Errorf("%s: Put(%+v) = %x, want %x", what, f, got, want)
	}
}

// isWrong fails the test, if a frame is right, or has bytes.
func isWrong(t *testing.T, what string, f api.HFrame) {
	t.Helper()
	if hframe.Right(f) {
		t.Errorf("%s: %+v is right", what, f)
	}
	if got := hframe.Put(f); len(got) != 0 {
		t.Errorf("%s: Put(%+v) = %x, want none", what, f, got)
	}
}

func TestRightAndPutOfExamples(t *testing.T) {
	for _, x := range examples {
		isRight(t, x.what, x.f, x.b)
	}
}

func TestEmptyListsAreNone(t *testing.T) {
	for _, x := range examples {
		f := x.f
		f.Data, f.Settings = append([]byte{}, f.Data...), append([]api.Setting{}, f.Settings...)
		isRight(t, x.what, f, x.b)
		if !hframe.Same(f, x.f) || !hframe.Same(x.f, f) {
			t.Errorf("%s: %+v and %+v aren't the same", x.what, f, x.f)
		}
	}
}

func TestFramesThatHaveWhatTheirKindHasNot(t *testing.T) {
	for _, x := range examples {
		for _, id := range []uint64{1, 4, api.MaxInt, api.MaxInt + 1, math.MaxUint64} {
			if f := x.f; !slices.Contains(withId, f.Kind) {
				f.Id = id
				isWrong(t, x.what+", with an Id", f)
			}
		}
		for _, data := range [][]byte{{0}, {4}, text(1, 1000)} {
			if f := x.f; !slices.Contains(withData, f.Kind) {
				f.Data = data
				isWrong(t, x.what+", with Data", f)
			}
		}
		for _, settings := range [][]api.Setting{{{}}, {{Id: 6}}, many(16)} {
			if f := x.f; f.Kind != api.HSettings {
				f.Settings = settings
				isWrong(t, x.what+", with Settings", f)
			}
		}
	}
}

func TestFramesOfOtherKinds(t *testing.T) {
	kinds := []int{-1, -4, 2, 5, 6, 8, 9, 10, 11, 12, 14, 15, 33, 63, 64, 64 + api.HGoAway, 256 + api.HGoAway, 1<<32 + api.HSettings, 1 << 32, -1 << 32, -1<<32 + api.HGoAway, api.MaxInt, math.MaxInt, math.MinInt, math.MinInt + api.HGoAway}
	for _, kind := range kinds {
		isWrong(t, "with nothing", api.HFrame{Kind: kind})
		isWrong(t, "with an Id", api.HFrame{Kind: kind, Id: 4})
		isWrong(t, "with Data", api.HFrame{Kind: kind, Data: []byte{4}})
		isWrong(t, "with Settings", api.HFrame{Kind: kind, Settings: many(1)})
	}
}

func TestHowManyBytesDataHas(t *testing.T) {
	for _, kind := range withData {
		for _, n := range []int{0, 1, 63, 64, 255, 256, 999, 1000} {
			isRight(t, "Data", api.HFrame{Kind: kind, Data: text(3, n)}, said(uint64(kind), text(3, n)))
		}
		for _, n := range []int{1001, 1002, 1024, 1256, 65536, 66000} {
			isWrong(t, "too much Data", api.HFrame{Kind: kind, Data: text(3, n)})
		}
	}
}

func TestWhichIdMayBe(t *testing.T) {
	for _, kind := range withId {
		for _, id := range []uint64{0, 1, 3, 4, 63, 64, 16383, 16384, 1<<30 - 1, 1 << 30, api.MaxInt - 1, api.MaxInt} {
			isRight(t, "an Id", api.HFrame{Kind: kind, Id: id}, said(uint64(kind), varint.Put(id)))
		}
		for _, id := range []uint64{api.MaxInt + 1, api.MaxInt + 2, 1 << 63, math.MaxUint64} {
			isWrong(t, "an Id that is none", api.HFrame{Kind: kind, Id: id})
		}
	}
}

// settingsOf is a Settings frame.
func settingsOf(l ...api.Setting) api.HFrame { return api.HFrame{Kind: api.HSettings, Settings: l} }

func TestHowManySettings(t *testing.T) {
	for n := range 40 {
		f := settingsOf(many(n)...)
		if n > 16 {
			isWrong(t, "too many", f)
			continue
		}
		var own []byte
		for i := range n {
			own = join(own, 5+n-i, i)
		}
		isRight(t, "settings", f, said(api.HSettings, own))
	}
	isWrong(t, "256 and 1", settingsOf(many(257)...))
}

func TestWhichSettingsMayBe(t *testing.T) {
	for id := range uint64(300) {
		alone, last := settingsOf(api.Setting{Id: id, Value: 7}), settingsOf(append(many(3)[:2:2], api.Setting{Id: 400, Value: 1}, api.Setting{Id: id, Value: 7})...)
		switch id {
		case 0, 2, 3, 4, 5:
			isWrong(t, "a number that none has, alone", alone)
			isWrong(t, "a number that none has, behind others", last)
		case 7, 8:
			isRight(t, "alone", alone, said(api.HSettings, varint.Put(id), 7))
			isWrong(t, "it stands ahead already", last)
		default:
			isRight(t, "alone", alone, said(api.HSettings, varint.Put(id), 7))
			isRight(t, "behind others", last, said(api.HSettings, 8, 0, 7, 1, varint.Put(400), 1, varint.Put(id), 7))
		}
	}
	for _, n := range []uint64{api.MaxInt + 1, api.MaxInt + 7, 1 << 63, math.MaxUint64} {
		isWrong(t, "a number that is too great", settingsOf(api.Setting{Id: n}))
		isWrong(t, "a value that is too great", settingsOf(api.Setting{Id: 6, Value: n}))
		isWrong(t, "a value that is too great, behind others", settingsOf(append(many(3), api.Setting{Id: 1, Value: n})...))
	}
	for _, n := range []uint64{0, 2, 3, 4, 5, 6, api.MaxInt} {
		isRight(t, "any value", settingsOf(api.Setting{Id: 1, Value: n}), said(api.HSettings, 1, varint.Put(n)))
	}
}

func TestNoSettingTwice(t *testing.T) {
	for n := 2; n <= 16; n++ {
		for i := range n {
			for j := range i {
				l := many(n)
				l[i].Id = l[j].Id
				isWrong(t, "another value", settingsOf(l...))
				l[i].Value = l[j].Value
				isWrong(t, "the same value", settingsOf(l...))
			}
		}
	}
	isRight(t, "values may come twice", settingsOf(api.Setting{Id: 6, Value: 5}, api.Setting{Id: 7, Value: 5}), []byte{4, 4, 6, 5, 7, 5})
	isRight(t, "a value like a number", settingsOf(api.Setting{Id: 6, Value: 7}, api.Setting{Id: 7, Value: 6}), []byte{4, 4, 6, 7, 7, 6})
}

func TestSame(t *testing.T) {
	full := api.HFrame{Kind: 4, Id: 5, Settings: []api.Setting{{Id: 6, Value: 7}, {Id: 8, Value: 9}}, Data: []byte{10, 11}}
	unlike := []api.HFrame{full, {}, {Kind: 1}, {Kind: -1}, {Id: 1}, {Data: []byte{0}}, {Data: []byte{0, 0}}, {Settings: []api.Setting{{}}}, {Settings: []api.Setting{{}, {}}}}
	for _, change := range []func(f *api.HFrame){
		func(f *api.HFrame) { f.Kind = 0 },
		func(f *api.HFrame) { f.Kind += 1 << 32 },
		func(f *api.HFrame) { f.Id = 0 },
		func(f *api.HFrame) { f.Id += 1 << 32 },
		func(f *api.HFrame) { f.Data = nil },
		func(f *api.HFrame) { f.Data = []byte{10} },
		func(f *api.HFrame) { f.Data = []byte{11, 10} },
		func(f *api.HFrame) { f.Data = []byte{10, 11, 0} },
		func(f *api.HFrame) { f.Settings = nil },
		func(f *api.HFrame) { f.Settings = f.Settings[:1] },
		func(f *api.HFrame) { f.Settings = []api.Setting{{Id: 8, Value: 9}, {Id: 6, Value: 7}} },
		func(f *api.HFrame) { f.Settings = []api.Setting{{Id: 6, Value: 7}, {Id: 8, Value: 0}} },
		func(f *api.HFrame) { f.Settings = []api.Setting{{Id: 1, Value: 7}, {Id: 8, Value: 9}} },
		func(f *api.HFrame) { f.Settings = []api.Setting{{Id: 6, Value: 7}, {Id: 8, Value: 9}, {}} },
	} {
		f := full
		change(&f)
		unlike = append(unlike, f)
	}
	areUnlike(t, unlike)
	unlike = nil
	for _, x := range examples {
		unlike = append(unlike, x.f)
	}
	areUnlike(t, unlike)
}

// areUnlike fails the test, if two frames of a list are told as the same, or one isn't the same as itself in other memory.
func areUnlike(t *testing.T, l []api.HFrame) {
	t.Helper()
	for i, a := range l {
		for j, b := range l {
			b.Data, b.Settings = bytes.Clone(b.Data), slices.Clone(b.Settings)
			if got := hframe.Same(a, b); got != (i == j) {
				t.Errorf("%+v and %+v: the same: %t", a, b, got)
			}
		}
	}
}

func TestPutNeitherChangesNorKeepsWhatIsHandedIn(t *testing.T) {
	for _, x := range examples {
		data, settings := append(bytes.Clone(x.f.Data), "spare room"...), append(slices.Clone(x.f.Settings), many(5)...)
		f := x.f
		f.Data, f.Settings = data[:len(f.Data)], settings[:len(f.Settings)]
		dataAhead, settingsAhead := bytes.Clone(data), slices.Clone(settings)
		b, again := hframe.Put(f), hframe.Put(f)
		spoil(again)
		if !bytes.Equal(data, dataAhead) || !slices.Equal(settings, settingsAhead) {
			t.Errorf("%s: what was handed in is changed, or shared", x.what)
		}
		spoil(data)
		clear(settings)
		if !bytes.Equal(b, x.b) {
			t.Errorf("%s: an answer hangs on what became of other memory: %x", x.what, b)
		}
	}
}
