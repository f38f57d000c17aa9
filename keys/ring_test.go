package keys_test

import (
	"bytes"
	"math"
	"testing"

	"doorward/api"
	"doorward/keys"
)

// noLevels are levels that there aren't.
var noLevels = []int{-1, 2, 3, -2, 255, 256, 257, math.MinInt32, math.MaxInt32, math.MinInt, math.MaxInt}

// state is what a ring tells of itself.
type state struct {
	hasLong, hasShort bool
	live              int
	phase             bool
}

// is fails the test, if a ring tells something else of itself.
func (want state) is(t *testing.T, what string, r *keys.Ring) {
	t.Helper()
	if got := (state{r.Has(0), r.Has(1), r.Live(), r.Phase()}); got != want {
		t.Errorf("%s: the ring tells %+v, want %+v", what, got, want)
	}
	for _, level := range noLevels {
		if r.Has(level) {
			t.Errorf("%s: the ring has keys of the level %d", what, level)
		}
	}
}

// answers fails the test, if an answer isn't the one that is wanted.
func answers(t *testing.T, what string, got, want bool) {
	t.Helper()
	if got != want {
		t.Errorf("%s: %t, want %t", what, got, want)
	}
}

// opens fails the test, if a ring doesn't open bytes to a text.
func opens(t *testing.T, what string, r *keys.Ring, level int, phase bool, n int64, more, sealed, want []byte) {
	t.Helper()
	if got, e := r.Open(level, phase, n, more, sealed); e != api.OK || !bytes.Equal(got, want) {
		t.Errorf("%s: Open(%d, %t, %d) = %x, %d, want %x", what, level, phase, n, got, e, want)
	}
}

// opensNot fails the test, if a ring opens bytes, or tells another error, or any text beside it.
func opensNot(t *testing.T, what string, r *keys.Ring, level int, phase bool, n int64, more, sealed []byte, want api.Errno) {
	t.Helper()
	if got, e := r.Open(level, phase, n, more, sealed); e != want || len(got) != 0 {
		t.Errorf("%s: Open(%d, %t, %d) = %x, %d, want none and %d", what, level, phase, n, got, e, want)
	}
}

// ringOf is a ring with keys of both levels, of the same two secrets.
func ringOf(t *testing.T, ownSecret, peersSecret string) *keys.Ring {
	t.Helper()
	r := keys.NewRing()
	answers(t, "Set(0)", r.Set(0, secretOf(t, ownSecret), secretOf(t, peersSecret)), true)
	answers(t, "Set(1)", r.Set(1, secretOf(t, ownSecret), secretOf(t, peersSecret)), true)
	return r
}

// updated is the keys of a secret, updated so many times.
func updated(secret api.Hash, times int) api.Secret {
	s := keys.Make(secret, false)
	for range times {
		s = keys.Update(s)
	}
	return s
}

// P10.2

func TestFreshRing(t *testing.T) {
	state{}.is(t, "a fresh ring", keys.NewRing())
}

func TestRingOfTheChaptersExamples(t *testing.T) {
	r := keys.NewRing()
	if got := r.Live(); got != 0 {
		t.Errorf("a fresh ring: Live = %d", got)
	}
	r.Set(0, secretOf(t, clients), secretOf(t, servers))
	if got := r.Live(); got != 2 {
		t.Errorf("Set of level 0: Live = %d", got)
	}
	r.Drop(0)
	if got := r.Live(); got != 0 {
		t.Errorf("Drop: Live = %d", got)
	}
}

func TestSetAndDropOfEachLevel(t *testing.T) {
	own, peer := secretOf(t, clients), secretOf(t, servers)
	r := keys.NewRing()
	answers(t, "Set(0)", r.Set(0, own, peer), true)
	state{hasLong: true, live: 2}.is(t, "with level 0", r)
	answers(t, "Set(1)", r.Set(1, own, peer), true)
	state{hasLong: true, hasShort: true, live: 4}.is(t, "with both levels", r)
	answers(t, "Drop(0)", r.Drop(0), true)
	state{hasShort: true, live: 2}.is(t, "without level 0", r)
	answers(t, "Drop(1)", r.Drop(1), true)
	state{}.is(t, "without any", r)

	r = keys.NewRing()
	answers(t, "Set(1) first", r.Set(1, own, peer), true)
	state{hasShort: true, live: 2}.is(t, "with level 1", r)
	answers(t, "Set(0) then", r.Set(0, own, peer), true)
	answers(t, "Drop(1) first", r.Drop(1), true)
	state{hasLong: true, live: 2}.is(t, "without level 1", r)
}

// TestSetIsOfSecretsThatAreZero: keys of a secret of bytes 0 are keys as well.
func TestSetIsOfSecretsThatAreZero(t *testing.T) {
	r := keys.NewRing()
	answers(t, "Set(0)", r.Set(0, api.Hash{}, api.Hash{}), true)
	answers(t, "Set(1)", r.Set(1, api.Hash{}, api.Hash{}), true)
	state{hasLong: true, hasShort: true, live: 4}.is(t, "with secrets of bytes 0", r)
	sealed := r.Seal(1, 3, nil, []byte("x"))
	opens(t, "sealed by a secret of bytes 0", r, 1, false, 3, nil, sealed, []byte("x"))
}

// TestSetIsInThePhaseFalse has packets sealed and opened by the keys of both secrets in that phase.
func TestSetIsInThePhaseFalse(t *testing.T) {
	own, peer := secretOf(t, clients), secretOf(t, servers)
	r := ringOf(t, clients, servers)
	answers(t, "Phase", r.Phase(), false)
	for level := range 2 {
		for _, x := range numbers {
			more, b := text(3, 20), text(7, 33)
			if got, want := r.Seal(level, x.n, more, b), keys.Seal(keys.Make(own, false), x.n, more, b); !bytes.Equal(got, want) {
				t.Errorf("Seal(%d, %d) = %x, want %x", level, x.n, got, want)
			}
			opens(t, "of the peer", r, level, false, x.n, more, keys.Seal(keys.Make(peer, false), x.n, more, b), b)
			opensNot(t, "of its own", r, level, false, x.n, more, keys.Seal(keys.Make(own, false), x.n, more, b), api.ErrAuth)
		}
	}
}

// TestSetOfALevelThatHasKeys: nothing comes of it, also behind an update.
func TestSetOfALevelThatHasKeys(t *testing.T) {
	r := ringOf(t, clients, servers)
	for level := range 2 {
		before := r.Seal(level, 1, nil, []byte("x"))
		for _, secret := range []string{clients, another, zeros} {
			answers(t, "Set of a level that has keys", r.Set(level, secretOf(t, secret), secretOf(t, another)), false)
		}
		if got := r.Seal(level, 1, nil, []byte("x")); !bytes.Equal(got, before) {
			t.Errorf("level %d: Seal = %x, was %x", level, got, before)
		}
		opens(t, "of the peer", r, level, false, 1, nil, keys.Seal(updated(secretOf(t, servers), 0), 1, nil, []byte("y")), []byte("y"))
	}
	state{hasLong: true, hasShort: true, live: 4}.is(t, "behind Set of levels that have keys", r)
	r.Turn()
	answers(t, "Set behind an update", r.Set(1, secretOf(t, another), secretOf(t, another)), false)
	state{hasLong: true, hasShort: true, live: 5, phase: true}.is(t, "behind Set of an updated level", r)
}

func TestSetOfALevelThatHadKeys(t *testing.T) {
	r := ringOf(t, clients, servers)
	for level := range 2 {
		answers(t, "Drop", r.Drop(level), true)
		for _, secret := range []string{clients, another, zeros} {
			answers(t, "Set of a level that had keys", r.Set(level, secretOf(t, secret), secretOf(t, another)), false)
		}
		answers(t, "Has", r.Has(level), false)
	}
	state{}.is(t, "behind Set of levels that had keys", r)
}

func TestSetAndDropOfNoLevel(t *testing.T) {
	for what, r := range map[string]*keys.Ring{"a fresh ring": keys.NewRing(), "with keys": ringOf(t, clients, servers)} {
		live := r.Live()
		for _, level := range noLevels {
			answers(t, what+": Set of no level", r.Set(level, secretOf(t, clients), secretOf(t, servers)), false)
			answers(t, what+": Drop of no level", r.Drop(level), false)
			answers(t, what+": Has of no level", r.Has(level), false)
		}
		if got := r.Live(); got != live {
			t.Errorf("%s: Live = %d, was %d", what, got, live)
		}
	}
}

// TestDropOfALevelWithoutKeys: a level that has none yet still gets them.
func TestDropOfALevelWithoutKeys(t *testing.T) {
	for level := range 2 {
		r := keys.NewRing()
		answers(t, "Drop of a level that has none yet", r.Drop(level), false)
		answers(t, "Set behind that", r.Set(level, secretOf(t, clients), secretOf(t, servers)), true)
		answers(t, "Has", r.Has(level), true)
		answers(t, "Drop", r.Drop(level), true)
		answers(t, "Drop twice", r.Drop(level), false)
		state{}.is(t, "behind both", r)
	}
}

func TestLiveBehindUpdates(t *testing.T) {
	r := ringOf(t, clients, servers)
	for i := range 5 {
		answers(t, "Turn", r.Turn(), true)
		// However often they are updated, those ahead of the last update are one.
		state{hasLong: true, hasShort: true, live: 5, phase: i%2 == 0}.is(t, "behind Turn", r)
	}
	r.Drop(0)
	state{hasShort: true, live: 3, phase: true}.is(t, "without level 0", r)
	r.Drop(1)
	state{}.is(t, "without those ahead of the update either", r)
}

func TestPhaseIsOfLevel1(t *testing.T) {
	r := keys.NewRing()
	r.Set(0, secretOf(t, clients), secretOf(t, servers))
	answers(t, "Phase with level 0 alone", r.Phase(), false)
	r.Set(1, secretOf(t, clients), secretOf(t, servers))
	answers(t, "Phase", r.Phase(), false)
	r.Turn()
	answers(t, "Phase behind Turn", r.Phase(), true)
	r.Turn()
	answers(t, "Phase behind Turn twice", r.Phase(), false)
	r.Turn()
	r.Drop(0)
	answers(t, "Phase without level 0", r.Phase(), true)
	r.Drop(1)
	answers(t, "Phase without keys", r.Phase(), false)
}

// TestNilRing has a nil ring in every call.
func TestNilRing(t *testing.T) {
	var r *keys.Ring
	for level := -1; level <= 2; level++ {
		answers(t, "Set", r.Set(level, secretOf(t, clients), secretOf(t, servers)), false)
		answers(t, "Drop", r.Drop(level), false)
		answers(t, "Has", r.Has(level), false)
		if got := r.Seal(level, 1, nil, []byte("x")); len(got) != 0 {
			t.Errorf("a nil ring: Seal(%d) = %x", level, got)
		}
		for _, phase := range []bool{false, true} {
			opensNot(t, "a nil ring", r, level, phase, 1, nil, make([]byte, 20), api.ErrState)
			opensNot(t, "a nil ring", r, level, phase, 1, nil, nil, api.ErrState)
		}
	}
	answers(t, "Turn", r.Turn(), false)
	state{}.is(t, "a nil ring", r)
}

func TestRingsAreTheirOwn(t *testing.T) {
	a, b := keys.NewRing(), keys.NewRing()
	a.Set(1, secretOf(t, clients), secretOf(t, servers))
	a.Turn()
	state{}.is(t, "another ring", b)
	answers(t, "Set of another ring", b.Set(1, secretOf(t, another), secretOf(t, zeros)), true)
	a.Drop(1)
	state{hasShort: true, live: 2}.is(t, "another ring", b)
}

// P10.3

func TestTurnWithoutKeys(t *testing.T) {
	r := keys.NewRing()
	answers(t, "Turn of a fresh ring", r.Turn(), false)
	r.Set(0, secretOf(t, clients), secretOf(t, servers))
	answers(t, "Turn with level 0 alone", r.Turn(), false)
	state{hasLong: true, live: 2}.is(t, "behind Turn with level 0 alone", r)
	r.Set(1, secretOf(t, clients), secretOf(t, servers))
	answers(t, "Turn", r.Turn(), true)
	r.Drop(1)
	answers(t, "Turn of what was dropped", r.Turn(), false)
	state{hasLong: true, live: 2}.is(t, "behind Turn of what was dropped", r)
}

// TestTurnUpdatesBothSidesKeys has each update's packets sealed and opened by keys that are updated by hand.
func TestTurnUpdatesBothSidesKeys(t *testing.T) {
	own, peer := secretOf(t, clients), secretOf(t, servers)
	r := ringOf(t, clients, servers)
	more, b := text(3, 20), text(7, 33)
	for i := range 6 {
		phase := i%2 == 1
		answers(t, "Phase", r.Phase(), phase)
		if got, want := r.Seal(1, 8, more, b), keys.Seal(updated(own, i), 8, more, b); !bytes.Equal(got, want) {
			t.Errorf("behind %d updates: Seal = %x, want %x", i, got, want)
		}
		opens(t, "by its keys", r, 1, phase, 8, more, keys.Seal(updated(peer, i), 8, more, b), b)
		if i > 0 {
			opens(t, "by those ahead", r, 1, !phase, 8, more, keys.Seal(updated(peer, i-1), 8, more, b), b)
		}
		if i > 1 {
			for _, either := range []bool{false, true} {
				opensNot(t, "by those two updates ahead", r, 1, either, 8, more, keys.Seal(updated(peer, i-2), 8, more, b), api.ErrAuth)
			}
		}
		answers(t, "Turn", r.Turn(), true)
	}
	// Level 0 isn't updated.
	if got, want := r.Seal(0, 8, more, b), keys.Seal(updated(own, 0), 8, more, b); !bytes.Equal(got, want) {
		t.Errorf("level 0 behind updates: Seal = %x, want %x", got, want)
	}
	opens(t, "level 0 behind updates", r, 0, true, 8, more, keys.Seal(updated(peer, 0), 8, more, b), b)
}

func TestSealByALevelWithoutKeys(t *testing.T) {
	without := func(what string, r *keys.Ring, level int) {
		t.Helper()
		for _, b := range [][]byte{nil, {}, []byte("x"), text(7, 33)} {
			if got := r.Seal(level, 1, nil, b); len(got) != 0 {
				t.Errorf("%s: Seal(%d, .., %x) = %x", what, level, b, got)
			}
		}
	}
	r := keys.NewRing()
	without("a fresh ring", r, 0)
	without("a fresh ring", r, 1)
	r.Set(0, secretOf(t, clients), secretOf(t, servers))
	without("with level 0", r, 1)
	r.Set(1, secretOf(t, clients), secretOf(t, servers))
	for _, level := range noLevels {
		without("with both levels", r, level)
	}
	r.Drop(0)
	without("what was dropped", r, 0)
	if got := r.Seal(1, 1, nil, nil); len(got) != 16 {
		t.Errorf("nothing is sealed to %x", got)
	}
	r.Turn()
	r.Drop(1)
	without("what was dropped", r, 1)
}

// TestOpenByALevelWithoutKeys has that told ahead of too few bytes.
func TestOpenByALevelWithoutKeys(t *testing.T) {
	without := func(what string, r *keys.Ring, level int) {
		t.Helper()
		for _, phase := range []bool{false, true} {
			for times := range 3 {
				opensNot(t, what, r, level, phase, 1, nil, keys.Seal(updated(secretOf(t, servers), times), 1, nil, []byte("x")), api.ErrState)
			}
			for _, n := range []int{0, 1, 15, 16} {
				opensNot(t, what, r, level, phase, 1, nil, make([]byte, n), api.ErrState)
			}
		}
	}
	r := keys.NewRing()
	without("a fresh ring", r, 0)
	without("a fresh ring", r, 1)
	r.Set(0, secretOf(t, clients), secretOf(t, servers))
	without("with level 0", r, 1)
	r.Set(1, secretOf(t, clients), secretOf(t, servers))
	for _, level := range noLevels {
		without("with both levels", r, level)
	}
	r.Drop(0)
	without("what was dropped", r, 0)
	r.Turn()
	r.Drop(1)
	without("what was dropped behind an update", r, 1)
	state{}.is(t, "behind all", r)
}

func TestOpenOfLevel0InEitherPhase(t *testing.T) {
	r := ringOf(t, clients, servers)
	peer := secretOf(t, servers)
	for range 3 {
		for _, phase := range []bool{false, true} {
			for _, x := range numbers {
				opens(t, "level 0", r, 0, phase, x.n, text(3, 20), keys.Seal(updated(peer, 0), x.n, text(3, 20), text(7, 33)), text(7, 33))
			}
			// Nothing of level 0 is updated.
			opensNot(t, "level 0", r, 0, phase, 1, nil, keys.Seal(updated(peer, 1), 1, nil, []byte("x")), api.ErrAuth)
			opensNot(t, "level 0", r, 0, phase, 1, nil, make([]byte, 15), api.ErrShort)
		}
	}
	state{hasLong: true, hasShort: true, live: 4}.is(t, "behind level 0's packets", r)
}

// TestOpenInAnotherPhaseAheadOfAnyUpdate: what the updated keys open updates all.
func TestOpenInAnotherPhaseAheadOfAnyUpdate(t *testing.T) {
	own, peer := secretOf(t, clients), secretOf(t, servers)
	for _, x := range numbers {
		r := ringOf(t, clients, servers)
		more, b := text(3, 20), text(7, 33)
		opens(t, "by updated keys", r, 1, true, x.n, more, keys.Seal(updated(peer, 1), x.n, more, b), b)
		state{hasLong: true, hasShort: true, live: 5, phase: true}.is(t, "behind that", r)
		if got, want := r.Seal(1, 4, more, b), keys.Seal(updated(own, 1), 4, more, b); !bytes.Equal(got, want) {
			t.Errorf("behind that: Seal = %x, want %x", got, want)
		}
		// The same one is opened again, by what are its keys now, and nothing more is updated.
		opens(t, "the same again", r, 1, true, x.n, more, keys.Seal(updated(peer, 1), x.n, more, b), b)
		opens(t, "a late one", r, 1, false, 0, more, keys.Seal(updated(peer, 0), 0, more, b), b)
		state{hasLong: true, hasShort: true, live: 5, phase: true}.is(t, "behind late ones", r)
	}
}

// TestWhatIsNotOpenedTurnsNothing has all that doesn't open, in both phases, ahead of an update and behind some.
func TestWhatIsNotOpenedTurnsNothing(t *testing.T) {
	own, peer := secretOf(t, clients), secretOf(t, servers)
	more, b := text(3, 20), text(7, 33)
	for times := range 4 {
		r := ringOf(t, clients, servers)
		for range times {
			r.Turn()
		}
		now := state{hasLong: true, hasShort: true, live: 4, phase: times%2 == 1}
		if times > 0 {
			now.live = 5
		}
		for _, phase := range []bool{false, true} {
			for n := range 16 {
				opensNot(t, "too few bytes", r, 1, phase, 1, more, make([]byte, n), api.ErrShort)
			}
			opensNot(t, "no list", r, 1, phase, 1, nil, nil, api.ErrShort)
			opensNot(t, "16 bytes 0", r, 1, phase, 1, more, make([]byte, 16), api.ErrAuth)
			opensNot(t, "two updates on", r, 1, phase, 1, more, keys.Seal(updated(peer, times+2), 1, more, b), api.ErrAuth)
			opensNot(t, "three updates on", r, 1, phase, 1, more, keys.Seal(updated(peer, times+3), 1, more, b), api.ErrAuth)
			for mine := range times + 3 {
				opensNot(t, "of its own", r, 1, phase, 1, more, keys.Seal(updated(own, mine), 1, more, b), api.ErrAuth)
			}
			now.is(t, "behind what wasn't opened", r)
		}
		// What is right but for its phase isn't opened either.
		opensNot(t, "its keys' in the other phase", r, 1, !now.phase, 1, more, keys.Seal(updated(peer, times), 1, more, b), api.ErrAuth)
		opensNot(t, "the next keys' in this phase", r, 1, now.phase, 1, more, keys.Seal(updated(peer, times+1), 1, more, b), api.ErrAuth)
		now.is(t, "behind what was in another phase", r)
		opens(t, "by its keys still", r, 1, now.phase, 1, more, keys.Seal(updated(peer, times), 1, more, b), b)
		if got, want := r.Seal(1, 1, more, b), keys.Seal(updated(own, times), 1, more, b); !bytes.Equal(got, want) {
			t.Errorf("behind what wasn't opened: Seal = %x, want %x", got, want)
		}
	}
}

// TestOneBitTurnedInAnotherPhase has all bits of what would update keys, or would be opened by those ahead.
func TestOneBitTurnedInAnotherPhase(t *testing.T) {
	peer := secretOf(t, servers)
	r := ringOf(t, clients, servers)
	r.Turn()
	for _, times := range []int{0, 1, 2} {
		phase := times%2 == 1
		more, b := text(3, 17), text(7, 20)
		sealed := keys.Seal(updated(peer, times), 256, more, b)
		for what, part := range map[string][]byte{"what is sealed": sealed, "more": more} {
			for bit := range 8 * len(part) {
				part[bit/8] ^= 1 << (bit % 8)
				opensNot(t, what+" turned", r, 1, phase, 256, more, sealed, api.ErrAuth)
				part[bit/8] ^= 1 << (bit % 8)
			}
		}
		for bit := range 64 {
			opensNot(t, "the number turned", r, 1, phase, 256^1<<bit, more, sealed, api.ErrAuth)
		}
		state{hasLong: true, hasShort: true, live: 5, phase: true}.is(t, "behind all bits", r)
		opens(t, "with all turned back", r, 1, phase, 256, more, sealed, b)
	}
	state{hasLong: true, hasShort: true, live: 5}.is(t, "behind an update's packet", r)
}

// TestOpenByTheKeysAheadOfTheLastUpdate: late packets open, and turn nothing.
func TestOpenByTheKeysAheadOfTheLastUpdate(t *testing.T) {
	peer := secretOf(t, servers)
	for times := 1; times < 5; times++ {
		r := ringOf(t, clients, servers)
		for range times {
			r.Turn()
		}
		ahead := times%2 == 0
		for _, x := range numbers {
			opens(t, "a late one", r, 1, ahead, x.n, text(3, 5), keys.Seal(updated(peer, times-1), x.n, text(3, 5), text(7, 33)), text(7, 33))
			state{hasLong: true, hasShort: true, live: 5, phase: !ahead}.is(t, "behind a late one", r)
		}
	}
}

// TestOpenWhereThoseAheadDoNotOpen: the updated keys do, and all are updated, those ahead as well.
func TestOpenWhereThoseAheadDoNotOpen(t *testing.T) {
	own, peer := secretOf(t, clients), secretOf(t, servers)
	more, b := text(3, 5), text(7, 33)
	r := ringOf(t, clients, servers)
	r.Turn()
	for times := 2; times < 8; times++ {
		phase := times%2 == 1
		opens(t, "by updated keys", r, 1, phase, 7, more, keys.Seal(updated(peer, times), 7, more, b), b)
		state{hasLong: true, hasShort: true, live: 5, phase: phase}.is(t, "behind that", r)
		if got, want := r.Seal(1, 7, more, b), keys.Seal(updated(own, times), 7, more, b); !bytes.Equal(got, want) {
			t.Errorf("behind %d updates: Seal = %x, want %x", times, got, want)
		}
		opens(t, "a late one", r, 1, !phase, 6, more, keys.Seal(updated(peer, times-1), 6, more, b), b)
		for _, either := range []bool{false, true} {
			opensNot(t, "one that is too late", r, 1, either, 5, more, keys.Seal(updated(peer, times-2), 5, more, b), api.ErrAuth)
		}
		state{hasLong: true, hasShort: true, live: 5, phase: phase}.is(t, "behind late ones", r)
	}
}

func TestRingsCallsChangeNothing(t *testing.T) {
	peer := secretOf(t, servers)
	for level := range 2 {
		for times := range 3 {
			for _, size := range edges {
				r := ringOf(t, clients, servers)
				r.Turn()
				more, moreMemory := withRoom(text(3, size))
				b, memory := withRoom(text(7, size))
				r.Seal(level, 9, more, b)
				isUnchanged(t, "Seal's text", memory, text(7, size))
				sealed := keys.Seal(updated(peer, times), 9, text(3, size), text(7, size))
				again, sealedMemory := withRoom(sealed)
				r.Open(level, times == 1, 9, more, again)
				r.Open(level, times == 1, 10, more, again)
				isUnchanged(t, "more", moreMemory, text(3, size))
				isUnchanged(t, "what was sealed", sealedMemory, sealed)
			}
		}
	}
}

func TestRingsAnswersAreNewMemory(t *testing.T) {
	peer := secretOf(t, servers)
	for level := range 2 {
		for _, size := range edges {
			r := ringOf(t, clients, servers)
			more, moreMemory := withRoom(text(3, size))
			b, memory := withRoom(text(7, size))
			sealed := r.Seal(level, 9, more, b)
			want := bytes.Clone(sealed)
			spoil(sealed)
			if got := r.Seal(level, 9, more, b); !bytes.Equal(got, want) {
				t.Errorf("level %d: Seal = %x, want %x", level, got, want)
			}
			for _, phase := range []bool{false, true} {
				times := 0
				if phase && level == 1 {
					times = 1
				}
				sealed := keys.Seal(updated(peer, times), 9, text(3, size), text(7, size))
				again, sealedMemory := withRoom(sealed)
				first, _ := r.Open(level, phase, 9, more, again)
				spoil(first)
				opens(t, "behind an answer that was written to", r, level, phase, 9, more, again, text(7, size))
				isUnchanged(t, "what was sealed", sealedMemory, sealed)
			}
			isUnchanged(t, "more", moreMemory, text(3, size))
			isUnchanged(t, "a text", memory, text(7, size))
		}
	}
}
