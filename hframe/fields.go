package hframe

import (
	"slices"

	"doorward/api"
	"doorward/varint"
)

// literal is the byte that stands ahead of each field.
const literal = 0x20

// Limits of fields.
const (
	mostFields = 32
	mostName   = 60  // bytes of a name
	mostValue  = 200 // bytes of a value
)

// Fields tells if there aren't too many fields, and each has a name and a value that it may have.
func Fields(l []api.Field) bool {
	return len(l) <= mostFields && !slices.ContainsFunc(l, isWrong)
}

// isWrong tells if a field's name or value is one that it may not have.
func isWrong(f api.Field) bool {
	return len(f.Name) < 1 || len(f.Name) > mostName || slices.ContainsFunc([]byte(f.Name), isCapital) || len(f.Value) > mostValue
}

func isCapital(b byte) bool { return 'A' <= b && b <= 'Z' }

// Pack is the section of right fields; none of others.
func Pack(l []api.Field) []byte {
	if !Fields(l) {
		return nil
	}
	var b []byte
	for _, f := range l {
		b = slices.Concat(b, []byte{literal}, counted(f.Name), counted(f.Value))
	}
	return b
}

// counted is a text behind how many bytes it has.
func counted(s string) []byte {
	return append(varint.Put(uint64(len(s))), s...)
}

// Unpack is the fields of a section; or none, and the error of what is wrong first.
func Unpack(b []byte) ([]api.Field, api.Errno) {
	var l []api.Field
	r := varint.Read(b)
	for r.Left() > 0 {
		f := readField(r)
		// One more than may be tells that there are too many. All the same the others are read: that something isn't there is named ahead of that.
		if len(l) <= mostFields {
			l = append(l, f)
		}
	}
	if !Fields(l) {
		// What was wrong ahead of that stays the reader's error, Fail sees to that.
		r.Fail(api.ErrForm)
	}
	if e := r.Bad(); e != api.OK {
		return nil, e
	}
	return l, api.OK
}

// readField is the field that stands there; the reader is bad, if there is none.
func readField(r *varint.Reader) api.Field {
	if r.Byte() != literal {
		r.Fail(api.ErrForm)
	}
	name := r.Bytes(r.Int())
	value := r.Bytes(r.Int())
	return api.Field{Name: string(name), Value: string(value)}
}
