package params

import (
	"doorward/api"
	"doorward/varint"
)

// Numbers that parameters are told by.
const (
	idleNumber    = 1
	tokenNumber   = 2
	dataNumber    = 4
	streamNumber  = 5
	streamsNumber = 8
)

// count is how many parameters there are; others are passed over.
const count = 5

// tokenSize is how many bytes a Token has.
const tokenSize = 16

// parameter is one of them: its number; its value's bytes, none if it is left out; and how these are put to its place, if they are of its form.
type parameter struct {
	number uint64
	value  func(p api.Params) []byte
	take   func(p *api.Params, value []byte) bool
}

// table is all parameters, in the order in which they are put.
func table() [count]parameter {
	return [count]parameter{
		integer(idleNumber, func(p *api.Params) *uint64 { return &p.Idle }),
		{tokenNumber, valueOfToken, takeToken},
		integer(dataNumber, func(p *api.Params) *uint64 { return &p.Data }),
		integer(streamNumber, func(p *api.Params) *uint64 { return &p.Stream }),
		integer(streamsNumber, func(p *api.Params) *uint64 { return &p.Streams }),
	}
}

// integer is a parameter whose value is an integer, by the place where that stands.
func integer(number uint64, place func(p *api.Params) *uint64) parameter {
	value := func(p api.Params) []byte {
		n := *place(&p)
		if n == 0 {
			return nil
		}
		return varint.Put(n)
	}
	take := func(p *api.Params, value []byte) bool {
		r := varint.Read(value)
		*place(p) = r.Int()
		return r.Bad() == api.OK && r.Left() == 0
	}
	return parameter{number, value, take}
}

// valueOfToken is a Token also if that is all 0: without it, nobody could tell that there is one.
func valueOfToken(p api.Params) []byte {
	if !p.Has {
		return nil
	}
	return p.Token[:]
}

func takeToken(p *api.Params, value []byte) bool {
	if len(value) != tokenSize {
		return false
	}
	p.Has, p.Token = true, [tokenSize]byte(value)
	return true
}
