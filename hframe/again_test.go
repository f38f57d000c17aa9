package hframe_test

import (
	"bytes"
	"math/rand"
	"slices"
	"testing"

	"doorward/api"
	"doorward/hframe"
	"doorward/varint"
)

// P6.4

// number is an integer of any length.
func number(r *rand.Rand) uint64 { return r.Uint64() >> (2 + r.Intn(62)) }

// drawn is a right frame, drawn by chance.
func drawn(r *rand.Rand) api.HFrame {
	kinds := []int{api.HData, api.HHeaders, api.HCancel, api.HSettings, api.HGoAway, api.HMaxPush}
	f := api.HFrame{Kind: kinds[r.Intn(len(kinds))]}
	switch {
	case slices.Contains(withData, f.Kind):
		f.Data = make([]byte, r.Intn(1001)>>r.Intn(10))
		r.Read(f.Data)
	case slices.Contains(withId, f.Kind):
		f.Id = number(r)
	default:
		for range r.Intn(17) {
			s := api.Setting{Id: number(r), Value: number(r)}
			taken := slices.ContainsFunc(f.Settings, func(o api.Setting) bool { return o.Id == s.Id })
			if !taken && !slices.Contains([]uint64{0, 2, 3, 4, 5}, s.Id) {
				f.Settings = append(f.Settings, s)
			}
		}
	}
	return f
}

// another is a frame's bytes that are passed over, drawn by chance.
func another(r *rand.Rand) []byte {
	kind := number(r)
	if !passedOver(kind) {
		kind += 32
	}
	return said(kind, text(byte(r.Intn(256)), r.Intn(2000)>>r.Intn(10)))
}

func TestWhatIsPutIsReadAgain(t *testing.T) {
	r := rand.New(rand.NewSource(6))
	for range 3000 {
		var b []byte
		var put, read []api.HFrame
		for range 1 + r.Intn(9) {
			f := drawn(r)
			if !hframe.Right(f) {
				t.Fatalf("%+v isn't right", f)
			}
			alone := hframe.Put(f)
			reads(t, "alone", alone, f, len(alone))
			b, put = join(b, alone), append(put, f)
			if r.Intn(3) == 0 {
				b = join(b, another(r))
			}
		}
		for rest := b; len(rest) > 0; {
			f, n, e := hframe.Next(rest)
			if e != api.OK && e != api.ErrNone {
				t.Fatalf("Next(%x) of what was put: %d", rest, e)
			}
			if e == api.OK {
				read = append(read, f)
			}
			rest = rest[n:]
		}
		if !slices.EqualFunc(put, read, hframe.Same) {
			t.Fatalf("put was %+v, read was %+v", put, read)
		}
	}
}

// drawnFields are right fields, drawn by chance: at most so many.
func drawnFields(r *rand.Rand, most int) []api.Field {
	l := make([]api.Field, r.Intn(most+1))
	for i := range l {
		name, value := make([]byte, 1+r.Intn(60)>>r.Intn(6)), make([]byte, r.Intn(201)>>r.Intn(8))
		r.Read(name)
		r.Read(value)
		l[i] = api.Field{Name: string(bytes.ToLower(bytes.ToValidUTF8(name, []byte{'-'}))), Value: string(value)}
		if len(l[i].Name) > 60 {
			l[i].Name = l[i].Name[:60]
		}
	}
	return l
}

func TestWhatIsPackedIsUnpackedAgain(t *testing.T) {
	r := rand.New(rand.NewSource(7))
	for range 3000 {
		l := drawnFields(r, 32)
		arePacked(t, "drawn", l, section(l))
		unpacks(t, "drawn", hframe.Pack(l), l)
	}
}

func TestTwoListsOneBehindTheOther(t *testing.T) {
	r := rand.New(rand.NewSource(8))
	for range 3000 {
		a, b := drawnFields(r, 32), drawnFields(r, 32)
		both := join(hframe.Pack(a), hframe.Pack(b))
		if len(a)+len(b) > 32 {
			unpacksNone(t, "too many", both, api.ErrForm)
		} else {
			unpacks(t, "both", both, slices.Concat(a, b))
		}
	}
}

// What follows holds the calls against the chapter, said once more in another way.

// rightAgain is Right by one statement for each of the chapter's.
func rightAgain(f api.HFrame) bool {
	noId, noData, noSettings := f.Id == 0, len(f.Data) == 0, len(f.Settings) == 0
	switch f.Kind {
	case 0, 1:
		return noId && noSettings && len(f.Data) < 1001
	case 3, 7, 13:
		return noData && noSettings && f.Id>>62 == 0
	case 4:
		seen := map[uint64]bool{0: true, 2: true, 3: true, 4: true, 5: true}
		for _, s := range f.Settings {
			if seen[s.Id] || s.Id>>62 != 0 || s.Value>>62 != 0 {
				return false
			}
			seen[s.Id] = true
		}
		return noData && noId && len(f.Settings) < 17
	}
	return false
}

// integerAgain is the integer that bytes begin with, and what stands behind; false, if it isn't there.
func integerAgain(b []byte) (n uint64, behind []byte, there bool) {
	if len(b) == 0 || len(b) < 1<<(b[0]/64) {
		return 0, nil, false
	}
	size := 1 << (b[0] / 64)
	n = uint64(b[0] % 64)
	for _, x := range b[1:size] {
		n = n*256 + uint64(x)
	}
	return n, b[size:], true
}

// nextAgain is Next, each error told on the spot.
func nextAgain(b []byte) (api.HFrame, int, api.Errno) {
	var none api.HFrame
	kind, rest, there := integerAgain(b)
	if !there {
		return none, 0, api.ErrShort
	}
	if kind == 2 || kind == 6 || kind == 8 || kind == 9 {
		return none, 0, api.ErrForm
	}
	count, rest, there := integerAgain(rest)
	if !there || count > uint64(len(rest)) {
		return none, 0, api.ErrShort
	}
	own, n := rest[:count], len(b)-len(rest)+int(count)
	if passedOver(kind) {
		return none, n, api.ErrNone
	}
	f := api.HFrame{Kind: int(kind)}
	switch kind {
	case 0, 1:
		f.Data = own
	case 4:
		for len(own) > 0 {
			var s api.Setting
			if s.Id, own, there = integerAgain(own); !there {
				return none, 0, api.ErrForm
			}
			if s.Value, own, there = integerAgain(own); !there {
				return none, 0, api.ErrForm
			}
			f.Settings = append(f.Settings, s)
		}
	default:
		if f.Id, own, there = integerAgain(own); !there || len(own) > 0 {
			return none, 0, api.ErrForm
		}
	}
	if !rightAgain(f) {
		return none, 0, api.ErrForm
	}
	return f, n, api.OK
}

// isNextAgain fails the test, if bytes' frame is told otherwise than by the chapter said once more.
func isNextAgain(t *testing.T, b []byte) api.Errno {
	t.Helper()
	f, n, e := nextAgain(b)
	switch e {
	case api.OK:
		reads(t, "said again", b, f, n)
		again := hframe.Put(f)
		reads(t, "put again", join(again, b), f, len(again))
	case api.ErrNone:
		passes(t, "said again", b, n)
	default:
		fails(t, "said again", b, e)
	}
	return e
}

// fieldsAgain tells if fields are right.
func fieldsAgain(l []api.Field) bool {
	for _, f := range l {
		if len(f.Name) == 0 || len(f.Name) >= 61 || len(f.Value) >= 201 || bytes.ContainsAny([]byte(f.Name), "ABCDEFGHIJKLMNOPQRSTUVWXYZ") {
			return false
		}
	}
	return len(l) < 33
}

// unpackAgain is Unpack, each error told on the spot.
func unpackAgain(b []byte) ([]api.Field, api.Errno) {
	var l []api.Field
	for len(b) > 0 {
		if b[0] != ' ' {
			return nil, api.ErrForm
		}
		b = b[1:]
		var texts [2]string
		for i := range texts {
			n, rest, there := integerAgain(b)
			if !there || n > uint64(len(rest)) {
				return nil, api.ErrShort
			}
			texts[i], b = string(rest[:n]), rest[n:]
		}
		l = append(l, api.Field{Name: texts[0], Value: texts[1]})
	}
	if !fieldsAgain(l) {
		return nil, api.ErrForm
	}
	return l, api.OK
}

// isUnpackedAgain fails the test, if a section is told otherwise than by the chapter said once more.
func isUnpackedAgain(t *testing.T, b []byte) api.Errno {
	t.Helper()
	l, e := unpackAgain(b)
	if e != api.OK {
		unpacksNone(t, "said again", b, e)
		return e
	}
	unpacks(t, "said again", b, l)
	arePacked(t, "packed again", l, section(l))
	return e
}

// blurred is bytes that something befell, near their beginning most of all.
func blurred(r *rand.Rand, b []byte) []byte {
	if len(b) == 0 {
		return b
	}
	at := min(r.Intn(len(b)), r.Intn(len(b)), r.Intn(len(b)))
	switch r.Intn(6) {
	case 0:
		return b[:at]
	case 1:
		b[at] = byte(r.Intn(256))
	case 2:
		b[at] ^= 1 << r.Intn(8)
	case 3:
		b[at] = byte(r.Intn(16))
	case 4:
		return join(b[:at], r.Intn(256), b[at:])
	}
	return b
}

func TestNextAsSaidAgain(t *testing.T) {
	r := rand.New(rand.NewSource(9))
	seen := map[api.Errno]int{}
	for range 40000 {
		b := hframe.Put(drawn(r))
		if r.Intn(5) == 0 {
			b = another(r)
		}
		seen[isNextAgain(t, blurred(r, join(b, hframe.Put(drawn(r)))))]++
	}
	for _, e := range []api.Errno{api.OK, api.ErrShort, api.ErrForm, api.ErrNone} {
		if seen[e] < 1000 {
			t.Errorf("only %d of 40000 are told by %d", seen[e], e)
		}
	}
	small := []byte{0, 1, 1, 2, 3, 4, 5, 6, 7, 8, 13, 33, 0x40, 0xc0}
	for range 100000 {
		b := make([]byte, r.Intn(14))
		for i := range b {
			b[i] = small[r.Intn(len(small))]
		}
		isNextAgain(t, b)
	}
}

func TestUnpackAsSaidAgain(t *testing.T) {
	r := rand.New(rand.NewSource(10))
	seen := map[api.Errno]int{}
	for range 20000 {
		seen[isUnpackedAgain(t, blurred(r, section(drawnFields(r, 34>>r.Intn(6)))))]++
	}
	for _, e := range []api.Errno{api.OK, api.ErrShort, api.ErrForm} {
		if seen[e] < 1000 {
			t.Errorf("only %d of 20000 are told by %d", seen[e], e)
		}
	}
	small := []byte{0, 1, 1, 1, 2, ' ', ' ', 'A', 'a', 0x40}
	for range 100000 {
		b := make([]byte, r.Intn(14))
		for i := range b {
			b[i] = small[r.Intn(len(small))]
		}
		isUnpackedAgain(t, b)
	}
}

// FuzzNext holds which frame any bytes begin with against the chapter, said once more.
func FuzzNext(f *testing.F) {
	for _, x := range examples {
		f.Add(x.b)
		f.Add(join(varint.Wide(uint64(x.f.Kind), 4), x.b[1:], x.b))
		f.Add(said(33, x.b))
	}
	f.Fuzz(func(t *testing.T, b []byte) {
		before := bytes.Clone(b)
		isNextAgain(t, b)
		if !bytes.Equal(b, before) {
			t.Fatalf("what was handed in is %x, was %x", b, before)
		}
	})
}

// FuzzUnpack holds what is unpacked of any bytes against the chapter, said once more.
func FuzzUnpack(f *testing.F) {
	for _, x := range sections {
		f.Add(x.b)
		f.Add(join(x.b, x.b))
	}
	f.Add(section(fieldsOf(33)))
	f.Fuzz(func(t *testing.T, b []byte) {
		before := bytes.Clone(b)
		isUnpackedAgain(t, b)
		if !bytes.Equal(b, before) {
			t.Fatalf("what was handed in is %x, was %x", b, before)
		}
	})
}

// FuzzFrame holds which frames are right against the chapter, said once more.
func FuzzFrame(f *testing.F) {
	for _, x := range examples {
		l := append(slices.Clone(x.f.Settings), api.Setting{}, api.Setting{})
		f.Add(x.f.Kind, x.f.Id, x.f.Data, min(len(x.f.Settings), 2), l[0].Id, l[0].Value, l[1].Id, l[1].Value)
	}
	f.Fuzz(func(t *testing.T, kind int, id uint64, data []byte, count int, number, value, number2, value2 uint64) {
		x := api.HFrame{Kind: kind, Id: id, Data: data}
		x.Settings = []api.Setting{{Id: number, Value: value}, {Id: number2, Value: value2}}[:min(max(count, 0), 2)]
		if !rightAgain(x) {
			isWrong(t, "any", x)
			return
		}
		b := hframe.Put(x)
		isRight(t, "any", x, b)
		reads(t, "any", b, x, len(b))
	})
}
