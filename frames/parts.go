package frames

import (
	"slices"

	"doorward/api"
	"doorward/varint"
)

// part is one of a frame: how it is put, how it is read, and how a frame is left without it.
type part struct {
	put  func(f api.Frame) []byte
	read func(r *varint.Reader, f *api.Frame)
	drop func(f *api.Frame)
}

// integer is the part that stands at a place of a frame.
func integer(place func(f *api.Frame) *uint64) part {
	return part{
		put:  func(f api.Frame) []byte { return varint.Put(*place(&f)) },
		read: func(r *varint.Reader, f *api.Frame) { *place(f) = r.Int() },
		drop: func(f *api.Frame) { *place(f) = 0 },
	}
}

func id() part { return integer(func(f *api.Frame) *uint64 { return &f.Id }) }

func amount() part { return integer(func(f *api.Frame) *uint64 { return &f.A }) }

func code() part { return integer(func(f *api.Frame) *uint64 { return &f.Code }) }

// data is the part Data, with what is put ahead of so many bytes, and how many of them a reader tells.
func data(ahead func(n int) []byte, told func(r *varint.Reader) uint64) part {
	return part{
		put:  func(f api.Frame) []byte { return append(ahead(len(f.Data)), f.Data...) },
		read: func(r *varint.Reader, f *api.Frame) { f.Data = r.Bytes(told(r)) },
		drop: func(f *api.Frame) { f.Data = nil },
	}
}

func nothingAhead(int) []byte { return nil }

func counted() part {
	return data(func(n int) []byte { return varint.Put(uint64(n)) }, (*varint.Reader).Int)
}

// shortlyCounted is Data behind a count that is no integer of layer 1, but a byte.
func shortlyCounted() part {
	return data(func(n int) []byte { return []byte{byte(n)} }, func(r *varint.Reader) uint64 { return uint64(r.Byte()) })
}

func challenge() part {
	return data(nothingAhead, func(*varint.Reader) uint64 { return challengeSize })
}

func allThatIsLeft() part {
	return data(nothingAhead, func(r *varint.Reader) uint64 { return uint64(r.Left()) })
}

func token() part {
	return part{
		put:  func(f api.Frame) []byte { return f.Token[:] },
		read: func(r *varint.Reader, f *api.Frame) { copy(f.Token[:], r.Bytes(uint64(len(f.Token)))) },
		drop: func(f *api.Frame) { f.Token = [16]byte{} },
	}
}

// zeros is how many paddings stand one behind the other: the type is the first one of them.
func zeros() part {
	return part{
		put:  func(f api.Frame) []byte { return make([]byte, f.A-1) },
		read: readZeros,
		drop: func(f *api.Frame) { f.A = 0 },
	}
}

func readZeros(r *varint.Reader, f *api.Frame) {
	for f.A = 1; f.A < api.MaxBytes; f.A++ {
		// A byte that isn't 0 is another frame's: it is looked at by a copy, so that it isn't read.
		ahead := *r
		if ahead.Byte() != 0 || ahead.Bad() != api.OK {
			return
		}
		*r = ahead
	}
}

// droppedCounts stand behind an Ack of the other type: nobody asks for them.
func droppedCounts() part {
	return part{
		put:  func(api.Frame) []byte { return nil },
		read: func(r *varint.Reader, _ *api.Frame) { r.Int(); r.Int(); r.Int() },
		drop: func(*api.Frame) {},
	}
}

// step is what two ranges have at least between Hi and the Lo ahead: with one less, they would touch.
const step = 2

// acked is Ranges, and B, which stands among them.
func acked() part {
	return part{
		put:  putAcked,
		read: readAcked,
		drop: func(f *api.Frame) { f.Ranges, f.B = nil, 0 },
	}
}

func putAcked(f api.Frame) []byte {
	first, others := f.Ranges[0], f.Ranges[1:]
	b := slices.Concat(varint.Put(first.Hi), varint.Put(f.B), varint.Put(uint64(len(others))), varint.Put(first.Hi-first.Lo))
	lo := first.Lo
	for _, x := range others {
		b = slices.Concat(b, varint.Put(lo-x.Hi-step), varint.Put(x.Hi-x.Lo))
		lo = x.Lo
	}
	return b
}

func readAcked(r *varint.Reader, f *api.Frame) {
	var lo uint64
	hi, delay, others, length := r.Int(), r.Int(), r.Int(), r.Int()
	if others >= api.MaxRanges || length > hi {
		goto wrong
	}
	lo = hi - length
	f.B, f.Ranges = delay, []api.Range{{Lo: lo, Hi: hi}}
	for range others {
		gap, length := r.Int(), r.Int()
		if gap+step+length > lo {
			goto wrong
		}
		hi = lo - gap - step
		lo = hi - length
		f.Ranges = append(f.Ranges, api.Range{Lo: lo, Hi: hi})
	}
	return
wrong:
	r.Fail(api.ErrForm)
}
