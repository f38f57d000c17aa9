package keys

import "doorward/api"

// levels is how many levels a ring has; those of shortLevel seal short packets, and are the only ones that are updated.
const (
	levels     = 2
	shortLevel = 1
)

// Places of a level's keys.
const (
	ownPlace   = iota
	peersPlace // the peer's
	aheadPlace // the peer's ahead of the last update
	places     // how many there are
)

// keysOfLevel has a pointer where there are keys: a secret may be all 0, so what it is can't tell.
type keysOfLevel [places]*api.Secret

// Ring has keys of levels.
type Ring struct {
	there [levels]keysOfLevel
	given [levels]bool // also of those that were dropped: these never come again
}

// NewRing is no keys.
func NewRing() *Ring { return new(Ring) }

// Set gives a level its keys, of its own secret and the peer's: true, if it never had any.
func (r *Ring) Set(level int, own, peer api.Hash) bool {
	if r == nil || level < 0 || level >= levels || r.given[level] {
		return false
	}
	ownKeys, peersKeys := Make(own, false), Make(peer, false)
	r.there[level] = keysOfLevel{ownPlace: &ownKeys, peersPlace: &peersKeys}
	r.given[level] = true
	return true
}

// Drop takes a level's keys away: true, if it had some.
func (r *Ring) Drop(level int) bool {
	if !r.Has(level) {
		return false
	}
	r.there[level] = keysOfLevel{}
	return true
}

// Has says whether a level has keys.
func (r *Ring) Has(level int) bool {
	return r != nil && 0 <= level && level < levels && r.there[level][ownPlace] != nil
}

// Live is how many keys there are.
func (r *Ring) Live() int {
	if r == nil {
		return 0
	}
	live := 0
	for _, of := range r.there {
		for _, keys := range of {
			if keys != nil {
				live++
			}
		}
	}
	return live
}

// Phase is that of level 1's own keys; false, if there are none.
func (r *Ring) Phase() bool {
	return r.Has(shortLevel) && r.there[shortLevel][ownPlace].Phase
}

// Turn updates level 1's keys: true, if there are any. The peer's old ones stay, for what is still on its way.
func (r *Ring) Turn() bool {
	if !r.Has(shortLevel) {
		return false
	}
	old := r.there[shortLevel]
	ownKeys, peersKeys := Update(*old[ownPlace]), Update(*old[peersPlace])
	r.there[shortLevel] = keysOfLevel{ownPlace: &ownKeys, peersPlace: &peersKeys, aheadPlace: old[peersPlace]}
	return true
}

// Seal seals a packet's text by a level's own keys; none, if there are none.
func (r *Ring) Seal(level int, n int64, more, text []byte) []byte {
	if !r.Has(level) {
		return nil
	}
	return Seal(*r.there[level][ownPlace], n, more, text)
}

// Open opens a packet by the peer's keys of a level, and a phase.
func (r *Ring) Open(level int, phase bool, n int64, more, sealed []byte) ([]byte, api.Errno) {
	if !r.Has(level) {
		return nil, api.ErrState
	}
	keys := *r.there[level][peersPlace]
	if level == shortLevel && phase != keys.Phase {
		return r.openInOtherPhase(n, more, sealed)
	}
	return Open(keys, n, more, sealed)
}

// openInOtherPhase opens a packet that isn't in the phase of the peer's keys: a late one, or the first one behind an update of the peer's, which this side then makes as well. Anybody may turn a packet's phase, so nothing is updated but by what opens.
func (r *Ring) openInOtherPhase(n int64, more, sealed []byte) ([]byte, api.Errno) {
	of := r.there[shortLevel]
	if of[aheadPlace] != nil {
		text, e := Open(*of[aheadPlace], n, more, sealed)
		if e == api.OK {
			return text, e
		}
	}
	text, e := Open(Update(*of[peersPlace]), n, more, sealed)
	if e == api.OK {
		r.Turn()
	}
	return text, e
}
