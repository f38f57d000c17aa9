package hframe_test

import (
	"bytes"
	"math"
	"reflect"
	"slices"
	"testing"

	"doorward/api"
	"doorward/hframe"
	"doorward/varint"
)

// reads fails the test, if bytes don't begin with that frame of so many bytes.
func reads(t *testing.T, what string, b []byte, want api.HFrame, size int) {
	t.Helper()
	if f, n, e := hframe.Next(b); !hframe.Same(f, want) || n != size || e != api.OK {
		t.Errorf("%s: Next(%x) = %+v, %d, %d, want %+v, %d, OK", what, b, f, n, e, want, size)
	}
}

// passes fails the test, if so many bytes aren't passed over.
func passes(t *testing.T, what string, b []byte, size int) {
	t.Helper()
	if f, n, e := hframe.Next(b); !reflect.DeepEqual(f, api.HFrame{}) || n != size || e != api.ErrNone {
		t.Errorf("%s: Next(%x) = %+v, %d, %d, want a zero one, %d, ErrNone", what, b, f, n, e, size)
	}
}

// fails fails the test, if bytes aren't told as wrong by that error, or something is told beside it.
func fails(t *testing.T, what string, b []byte, want api.Errno) {
	t.Helper()
	if f, n, e := hframe.Next(b); !reflect.DeepEqual(f, api.HFrame{}) || n != 0 || e != want {
		t.Errorf("%s: Next(%x) = %+v, %d, %d, want a zero one, 0, %d", what, b, f, n, e, want)
	}
}

// isShort fails the test, if bytes aren't told as too few wherever they are cut off.
func isShort(t *testing.T, what string, b []byte) {
	t.Helper()
	for n := range b {
		fails(t, what+", cut off", b[:n], api.ErrShort)
	}
}

// behinds are bytes that may stand behind a frame.
func behinds() [][]byte {
	return [][]byte{{0}, {2}, {7, 1}, {255}, text(0, 40), said(api.HGoAway, 4), bytes.Repeat([]byte{255}, 40)}
}

// P6.2

func TestNextOfExamples(t *testing.T) {
	for _, x := range examples {
		reads(t, x.what, x.b, x.f, len(x.b))
		reads(t, x.what+", with spare room", append(x.b, "spare"...)[:len(x.b)], x.f, len(x.b))
		for _, behind := range behinds() {
			reads(t, x.what+", others behind", join(x.b, behind), x.f, len(x.b))
		}
		isShort(t, x.what, x.b)
	}
}

func TestNextOfNothing(t *testing.T) {
	fails(t, "nil", nil, api.ErrShort)
	fails(t, "no byte", []byte{}, api.ErrShort)
	fails(t, "no byte, but spare room", said(api.HGoAway, 4)[:0], api.ErrShort)
}

func TestFramesOneBehindTheOther(t *testing.T) {
	for _, a := range examples {
		for _, b := range examples {
			both := join(a.b, b.b)
			reads(t, a.what+", ahead of another one", both, a.f, len(a.b))
			reads(t, b.what+", behind another one", both[len(a.b):], b.f, len(b.b))
		}
	}
}

func TestIntegersInLongerBytes(t *testing.T) {
	for _, wide := range []int{1, 2, 4, 8} {
		for _, x := range examples {
			// All examples' kinds have one byte, but the counts of some have two.
			count, size := uint64(x.b[1]), 2
			if x.b[1] >= 64 {
				count, size = uint64(x.b[1])%64*256+uint64(x.b[2]), 3
			}
			own := x.b[size:]
			b := join(varint.Wide(uint64(x.f.Kind), wide), x.b[1:])
			reads(t, x.what+", its kind", b, x.f, len(b))
			isShort(t, x.what+", its kind", b)
			if wide >= varint.Size(count) {
				b = join(int(x.b[0]), varint.Wide(count, wide), own)
				reads(t, x.what+", its count", b, x.f, len(b))
				reads(t, x.what+", its count, others behind", join(b, text(0, 30)), x.f, len(b))
				isShort(t, x.what+", its count", b)
				b = join(varint.Wide(uint64(x.f.Kind), 8), varint.Wide(count, wide), own)
				reads(t, x.what+", both", b, x.f, len(b))
				isShort(t, x.what+", both", b)
			}
		}
		for _, kind := range withId {
			b := said(uint64(kind), varint.Wide(4, wide))
			reads(t, "an Id", b, api.HFrame{Kind: kind, Id: 4}, len(b))
			isShort(t, "an Id", b)
			reads(t, "an Id of 0", said(uint64(kind), varint.Wide(0, wide)), api.HFrame{Kind: kind}, 2+wide)
		}
		b := said(api.HSettings, varint.Wide(6, wide), 9, 7, varint.Wide(5, wide))
		reads(t, "settings", b, settingsOf(api.Setting{Id: 6, Value: 9}, api.Setting{Id: 7, Value: 5}), len(b))
		isShort(t, "settings", b)
		for _, id := range []uint64{0, 2, 3, 4, 5} {
			fails(t, "a setting's number that none has", said(api.HSettings, varint.Wide(id, wide), 9), api.ErrForm)
		}
		fails(t, "a setting twice", said(api.HSettings, varint.Wide(6, wide), 9, 6, 9), api.ErrForm)
	}
}

// forbidden are the kinds that aren't even passed over.
var forbidden = []uint64{2, 6, 8, 9}

func TestForbiddenKinds(t *testing.T) {
	for _, kind := range forbidden {
		for _, wide := range []int{1, 2, 4, 8} {
			b := varint.Wide(kind, wide)
			isShort(t, "the kind", b)
			fails(t, "the kind alone", b, api.ErrForm)
			for _, behind := range append(behinds(), nil, []byte{1, 4}, []byte{4, 6, 0}, []byte{0x80}, said(1000, text(1, 900))) {
				fails(t, "more behind", join(b, behind), api.ErrForm)
				fails(t, "whole", join(b, varint.Put(uint64(len(behind))), behind), api.ErrForm)
				fails(t, "whole, others behind", join(b, varint.Put(uint64(len(behind))), behind, said(api.HGoAway, 4)), api.ErrForm)
			}
			fails(t, "a count of more than there are", join(b, greatest), api.ErrForm)
		}
	}
}

// passedOver tells if frames of a kind are passed over.
func passedOver(kind uint64) bool {
	return !slices.Contains([]uint64{0, 1, 2, 3, 4, 6, 7, 8, 9, 13}, kind)
}

func TestOtherKindsArePassedOver(t *testing.T) {
	kinds := []uint64{256, 256 + 2, 256 + 4, 256 + 7, 1 << 14, 1<<16 + 7, 1 << 32, 1<<32 + 2, 1<<32 + 7, 1<<33 + 13, 1 << 61, 1<<61 + 4, api.MaxInt - 1, api.MaxInt}
	for kind := range uint64(140) {
		kinds = append(kinds, kind)
	}
	for _, kind := range kinds {
		if !passedOver(kind) {
			continue
		}
		for _, own := range [][]byte{nil, {4}, {0x40}, said(2), text(1, 63), text(1, 64), text(1, 1000), text(1, 1001), text(1, 5000)} {
			b := said(kind, own)
			passes(t, "alone", b, len(b))
			passes(t, "a frame behind", join(b, said(api.HGoAway, 4)), len(b))
			passes(t, "what is no frame behind", join(b, 2), len(b))
			for n := 0; n < len(b); n += 1 + n/70 {
				fails(t, "cut off", b[:n], api.ErrShort)
			}
			fails(t, "without the last byte", b[:len(b)-1], api.ErrShort)
		}
		for _, wide := range []int{1, 2, 4, 8} {
			b := join(varint.Wide(kind%64+64*(kind%2), 8), varint.Wide(3, wide), 2, 2, 2)
			if passedOver(kind%64 + 64*(kind%2)) {
				passes(t, "in longer bytes", join(b, 2), len(b))
				isShort(t, "in longer bytes", b)
			}
		}
	}
}

func TestWhatStandsBehindOneThatIsPassedOver(t *testing.T) {
	for _, x := range examples {
		b := join(said(33, text(1, 9)), said(5), x.b, said(10, 2, 2), x.b)
		var l []api.HFrame
		var told []api.Errno
		for len(b) > 0 {
			f, n, e := hframe.Next(b)
			if n <= 0 || n > len(b) {
				t.Fatalf("%s: Next(%x) tells %d bytes, %d", x.what, b, n, e)
			}
			l, told, b = append(l, f), append(told, e), b[n:]
		}
		want := []api.HFrame{{}, {}, x.f, {}, x.f}
		if !slices.EqualFunc(l, want, hframe.Same) || !slices.Equal(told, []api.Errno{api.ErrNone, api.ErrNone, api.OK, api.ErrNone, api.OK}) {
			t.Errorf("%s: told were %+v, %d", x.what, l, told)
		}
	}
}

// isNoFrame fails the test, if a frame's bytes aren't told as wrong when they are all there, and as too few ahead of that.
func isNoFrame(t *testing.T, what string, b []byte) {
	t.Helper()
	for n := 0; n < len(b); n += 1 + n/70 {
		fails(t, what+", cut off", b[:n], api.ErrShort)
	}
	fails(t, what+", without the last byte", b[:len(b)-1], api.ErrShort)
	fails(t, what, b, api.ErrForm)
	for _, behind := range behinds() {
		// A frame ends where its count says, also where what stands behind would make it whole.
		fails(t, what+", others behind", join(b, behind), api.ErrForm)
	}
}

func TestDataThatIsTooLong(t *testing.T) {
	for _, kind := range withData {
		for _, n := range []int{1001, 1002, 1256, 5000, 70000} {
			isNoFrame(t, "too long", said(uint64(kind), text(1, n)))
		}
		for _, n := range []int{0, 1, 999, 1000} {
			reads(t, "not too long", said(uint64(kind), text(1, n)), api.HFrame{Kind: kind, Data: text(1, n)}, 1+varint.Size(uint64(n))+n)
		}
	}
}

func TestIdsThatAreNoInteger(t *testing.T) {
	for what, own := range map[string][]byte{
		"none":                          nil,
		"two":                           {1, 1},
		"two of 0":                      {0, 0},
		"a byte behind":                 {0x40, 4, 0},
		"a byte behind the longest":     join(greatest, 0),
		"1 byte of 2":                   {0x40},
		"1 byte of 4":                   {0x80},
		"3 bytes of 4":                  {0x80, 0, 0},
		"1 byte of 8":                   {0xc0},
		"7 bytes of 8":                  greatest[:7],
		"many":                          bytes.Repeat([]byte{5}, 300),
		"more than Data may have":       bytes.Repeat([]byte{5}, 1001),
		"another frame's":               {7, 1, 4},
		"a setting":                     {6, 5},
		"as many as two of the longest": join(greatest, greatest),
	} {
		for _, kind := range withId {
			isNoFrame(t, what, said(uint64(kind), own))
		}
	}
}

func TestSettingsThatAreNone(t *testing.T) {
	for what, own := range map[string][]byte{
		"a number alone":               {6},
		"a number alone, behind":       {6, 5, 7},
		"1 byte of a number":           {0x40},
		"1 byte of a number, behind":   {6, 5, 0x80},
		"1 byte of a value":            {6, 0x40},
		"3 bytes of a value":           {6, 0x80, 0, 0},
		"7 bytes of a value":           join(6, greatest[:7]),
		"7 bytes of the 16th's value":  join(rising(15), 50, greatest[:7]),
		"a number alone, the 17th":     join(rising(16), 50),
		"a wrong number, and no value": {2},
		"the number 0":                 {0, 0},
		"the number 2":                 {2, 0},
		"the number 3":                 {3, 7},
		"the number 4":                 {4, 7},
		"the number 5":                 {5, 7},
		"the number 2, behind":         {6, 1, 2, 1},
		"the number 5, ahead":          {5, 1, 6, 1},
		"twice":                        {6, 1, 6, 1},
		"twice, another value":         {6, 1, 6, 2},
		"twice, another in between":    {6, 1, 7, 1, 6, 1},
		"twice, the last of 16":        join(rising(15), 20, 1),
		"17":                           rising(17),
		"18":                           rising(18),
		"33":                           rising(33),
		"600":                          rising(600),
	} {
		isNoFrame(t, what, said(api.HSettings, own))
	}
}

// rising is the bytes of so many settings of the numbers 6, 7, 8 ..
func rising(n int) []byte {
	var b []byte
	for i := range n {
		b = join(b, varint.Put(uint64(6+i)), 5)
	}
	return b
}

func TestSettingsInAnyOrder(t *testing.T) {
	l := []api.Setting{{Id: 1, Value: 4}, {Id: 6, Value: 3}, {Id: 7, Value: 2}, {Id: 63, Value: 63}}
	tried := 0
	var from func(n int)
	from = func(n int) {
		if n == len(l) {
			tried++
			var own []byte
			for _, s := range l {
				own = join(own, int(s.Id), int(s.Value))
			}
			isRight(t, "in some order", settingsOf(l...), said(api.HSettings, own))
			reads(t, "in some order", said(api.HSettings, own), settingsOf(l...), 10)
		}
		for i := n; i < len(l); i++ {
			l[n], l[i] = l[i], l[n]
			from(n + 1)
			l[n], l[i] = l[i], l[n]
		}
	}
	if from(0); tried != 24 {
		t.Errorf("tried were %d orders", tried)
	}
}

func TestCountsOfMoreThanThereAre(t *testing.T) {
	for kind := range uint64(16) {
		want := api.ErrShort
		if slices.Contains(forbidden, kind) {
			want = api.ErrForm
		}
		for _, count := range []uint64{41, 63, 64, 1001, 1 << 31, 1<<31 + 1, 1 << 32, 1<<32 + 1, 1 << 61, api.MaxInt - 1, api.MaxInt} {
			fails(t, "a count of more than there are", join(varint.Put(kind), varint.Put(count), bytes.Repeat([]byte{1}, 40)), want)
			fails(t, "none of them", join(varint.Put(kind), varint.Put(count)), want)
		}
	}
}

func TestNextAnswersNewMemory(t *testing.T) {
	for _, x := range examples {
		memory := join(x.b, "others, and spare room")
		ahead := bytes.Clone(memory)
		b := memory[:len(x.b)+6]
		f, _, _ := hframe.Next(b)
		again, _, _ := hframe.Next(b)
		spoil(again.Data)
		clear(again.Settings[:cap(again.Settings)])
		if !bytes.Equal(memory, ahead) {
			t.Errorf("%s: what was handed in is changed, or shared", x.what)
		}
		spoil(memory)
		if !hframe.Same(f, x.f) {
			t.Errorf("%s: an answer hangs on what became of other memory: %+v", x.what, f)
		}
	}
}

func TestManyFramesOneBehindTheOther(t *testing.T) {
	const count = 300000
	b := bytes.Repeat(join(said(api.HData, 5), said(33, 5)), count)
	frames := 0
	// Were all that stands behind gone through for each one, this would take minutes.
	for len(b) > 0 {
		_, n, e := hframe.Next(b)
		if n != 3 || e != api.OK && e != api.ErrNone {
			t.Fatalf("frame %d: %d bytes, %d", frames, n, e)
		}
		b, frames = b[n:], frames+1
	}
	if frames != 2*count {
		t.Errorf("%d frames, want %d", frames, 2*count)
	}
}

func TestTheGreatestIntegers(t *testing.T) {
	const most = math.MaxUint64 >> 2
	reads(t, "GoAway", said(api.HGoAway, greatest), api.HFrame{Kind: api.HGoAway, Id: most}, 10)
	reads(t, "Settings", said(api.HSettings, greatest, greatest, 6, greatest), settingsOf(api.Setting{Id: most, Value: most}, api.Setting{Id: 6, Value: most}), 27)
	passes(t, "a kind", join(greatest, 2, 1, 1), 11)
}
