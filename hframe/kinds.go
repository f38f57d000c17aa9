package hframe

import (
	"bytes"
	"slices"

	"doorward/api"
	"doorward/varint"
)

// Limits that api doesn't have.
const (
	mostData     = 1000 // bytes of Data
	mostSettings = 16
)

// kind is what frames of one kind have: which ones are right; a right one's own bytes; and how these are put to their place, if they are of its form.
type kind struct {
	has  func(f api.HFrame) bool
	put  func(f api.HFrame) []byte
	take func(f *api.HFrame, own []byte) bool
}

// kinds are all of them, by numbers that hold any kind on the wire: an int may be too small for that. Others are passed over, or forbidden.
func kinds() map[uint64]kind {
	ofData := kind{hasData, putData, takeData}
	ofId := kind{hasId, putId, takeId}
	return map[uint64]kind{
		api.HData:     ofData,
		api.HHeaders:  ofData,
		api.HCancel:   ofId,
		api.HSettings: {hasSettings, putSettings, takeSettings},
		api.HGoAway:   ofId,
		api.HMaxPush:  ofId,
	}
}

// isForbidden tells if frames of a kind may not even be passed over.
func isForbidden(number uint64) bool {
	switch number {
	case 2, 6, 8, 9:
		return true
	}
	return false
}

func hasData(f api.HFrame) bool {
	return len(f.Data) <= mostData && f.Id == 0 && len(f.Settings) == 0
}

func putData(f api.HFrame) []byte { return f.Data }

func takeData(f *api.HFrame, own []byte) bool {
	f.Data = bytes.Clone(own)
	return true
}

func hasId(f api.HFrame) bool {
	return f.Id <= api.MaxInt && len(f.Settings) == 0 && len(f.Data) == 0
}

func putId(f api.HFrame) []byte { return varint.Put(f.Id) }

func takeId(f *api.HFrame, own []byte) bool {
	r := varint.Read(own)
	f.Id = r.Int()
	return r.Bad() == api.OK && r.Left() == 0
}

func hasSettings(f api.HFrame) bool {
	return areSettings(f.Settings) && f.Id == 0 && len(f.Data) == 0
}

func putSettings(f api.HFrame) []byte {
	var b []byte
	for _, s := range f.Settings {
		b = slices.Concat(b, varint.Put(s.Id), varint.Put(s.Value))
	}
	return b
}

func takeSettings(f *api.HFrame, own []byte) bool {
	r := varint.Read(own)
	// One more than may be tells that there are too many.
	for r.Left() > 0 && len(f.Settings) <= mostSettings {
		number, value := r.Int(), r.Int()
		f.Settings = append(f.Settings, api.Setting{Id: number, Value: value})
	}
	return r.Bad() == api.OK
}

// areSettings tells if settings may stand in one frame.
func areSettings(l []api.Setting) bool {
	if len(l) > mostSettings {
		return false
	}
	for i, s := range l {
		cameAlready := slices.ContainsFunc(l[:i], func(ahead api.Setting) bool { return ahead.Id == s.Id })
		if cameAlready || isForbiddenSetting(s.Id) || max(s.Id, s.Value) > api.MaxInt {
			return false
		}
	}
	return true
}

// isForbiddenSetting tells if no setting may have a number.
func isForbiddenSetting(number uint64) bool {
	switch number {
	case 0, 2, 3, 4, 5:
		return true
	}
	return false
}
