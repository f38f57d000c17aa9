package keys_test

import (
	"math/rand"
	"testing"

	"doorward/api"
	"doorward/keys"
)

// P10.4

// side is one of two that seal for each other: its ring, and the number of its next packet.
type side struct {
	name string
	ring *keys.Ring
	next int64
}

// packet is what a side sealed.
type packet struct {
	level              int
	phase              bool
	n                  int64
	more, text, sealed []byte
}

// sides are a client and a server that have keys of both levels.
func sides(t *testing.T) (client, server *side) {
	t.Helper()
	client, server = &side{name: "the client", ring: keys.NewRing()}, &side{name: "the server", ring: keys.NewRing()}
	firstClients, firstServers := keys.First([]byte("12345678"))
	laterClients, laterServers := keys.Later([]byte("the client's"), []byte("the server's text"))
	answers(t, "Set", client.ring.Set(0, firstClients, firstServers), true)
	answers(t, "Set", server.ring.Set(0, firstServers, firstClients), true)
	answers(t, "Set", client.ring.Set(1, laterClients, laterServers), true)
	answers(t, "Set", server.ring.Set(1, laterServers, laterClients), true)
	return client, server
}

// seal is the side's next packet.
func (s *side) seal(level int) packet {
	p := packet{level: level, n: s.next, more: text(3, int(s.next%20)), text: text(7, int(s.next%50))}
	if level == 1 {
		p.phase = s.ring.Phase()
	}
	p.sealed = s.ring.Seal(level, p.n, p.more, p.text)
	s.next++
	return p
}

// opens fails the test, if the side doesn't open a packet to its text.
func (s *side) opens(t *testing.T, p packet) {
	t.Helper()
	opens(t, s.name, s.ring, p.level, p.phase, p.n, p.more, p.sealed, p.text)
}

// opensNot fails the test, if the side opens a packet, or tells another error.
func (s *side) opensNot(t *testing.T, p packet, want api.Errno) {
	t.Helper()
	opensNot(t, s.name, s.ring, p.level, p.phase, p.n, p.more, p.sealed, want)
}

func TestWhatOneSealsTheOtherOpens(t *testing.T) {
	client, server := sides(t)
	for level := range 2 {
		for range 60 {
			server.opens(t, client.seal(level))
			client.opens(t, server.seal(level))
		}
		// Nobody opens what is its own.
		client.opensNot(t, client.seal(level), api.ErrAuth)
		server.opensNot(t, server.seal(level), api.ErrAuth)
	}
	// Nor by another level's keys.
	for level := range 2 {
		p := client.seal(level)
		p.level = 1 - level
		server.opensNot(t, p, api.ErrAuth)
	}
}

func TestWhatOneSealsTheOtherOpensAcrossUpdates(t *testing.T) {
	client, server := sides(t)
	for i := range 12 {
		turns, hears := client, server
		if i%3 == 1 {
			turns, hears = server, client
		}
		lateOfTurns, lateOfHears := turns.seal(1), hears.seal(1)
		answers(t, "Turn", turns.ring.Turn(), true)
		// Whoever turned opens what the other one seals, though that heard nothing of it yet.
		turns.opens(t, lateOfHears)
		turns.opens(t, hears.seal(1))
		answers(t, "the other's phase", hears.ring.Phase(), i%2 == 1)
		hears.opens(t, lateOfTurns)
		hears.opens(t, turns.seal(1))
		answers(t, "the other's phase", hears.ring.Phase(), i%2 == 0)
		turns.opens(t, hears.seal(1))
		// What is late is opened on both sides still.
		hears.opens(t, lateOfTurns)
		turns.opens(t, lateOfHears)
		hears.opens(t, turns.seal(1))
		if client.ring.Live() != 5 || server.ring.Live() != 5 {
			t.Errorf("behind %d updates: Live = %d, %d", i+1, client.ring.Live(), server.ring.Live())
		}
		// Level 0 goes on by its keys.
		server.opens(t, client.seal(0))
		client.opens(t, server.seal(0))
	}
}

// TestBothUpdateAtOnce: both come to the same keys, without one update more.
func TestBothUpdateAtOnce(t *testing.T) {
	client, server := sides(t)
	for i := range 5 {
		lateOfClient, lateOfServer := client.seal(1), server.seal(1)
		client.ring.Turn()
		server.ring.Turn()
		server.opens(t, client.seal(1))
		client.opens(t, server.seal(1))
		server.opens(t, lateOfClient)
		client.opens(t, lateOfServer)
		answers(t, "the client's phase", client.ring.Phase(), i%2 == 0)
		answers(t, "the server's phase", server.ring.Phase(), i%2 == 0)
	}
}

// TestTwoUpdatesAtATime: who didn't hear of the first one opens nothing behind the second, and turns nothing, till it hears of the first one.
func TestTwoUpdatesAtATime(t *testing.T) {
	client, server := sides(t)
	client.ring.Turn()
	first := client.seal(1)
	client.ring.Turn()
	second := client.seal(1)
	server.opensNot(t, second, api.ErrAuth)
	state{hasLong: true, hasShort: true, live: 4}.is(t, "behind what wasn't opened", server.ring)
	client.opensNot(t, server.seal(1), api.ErrAuth)
	server.opens(t, first)
	server.opens(t, second)
	client.opens(t, server.seal(1))
}

// TestDrawnUpdates has packets of both sides that come late, or never, and in another order, while either updates, once the other one heard of the last update.
func TestDrawnUpdates(t *testing.T) {
	r := rand.New(rand.NewSource(10))
	for range 50 {
		client, server := sides(t)
		underWay := map[*side][]packet{}
		var updates int
		other := map[*side]*side{client: server, server: client}
		updatesOf := map[*side]int{}
		// sealedIn is behind how many updates a packet was sealed, by its side and number.
		sealedIn := map[*side]map[int64]int{client: {}, server: {}}
		for range 200 {
			s := []*side{client, server}[r.Intn(2)]
			switch r.Intn(5) {
			case 0:
				if updatesOf[client] == updates && updatesOf[server] == updates {
					s.ring.Turn()
					updates++
					updatesOf[s] = updates
				}
			case 1, 2:
				p := s.seal(1)
				sealedIn[s][p.n] = updatesOf[s]
				underWay[s] = append(underWay[s], p)
			default:
				if len(underWay[s]) == 0 {
					continue
				}
				i := r.Intn(len(underWay[s]))
				p, hears := underWay[s][i], other[s]
				underWay[s] = append(underWay[s][:i], underWay[s][i+1:]...)
				if sealedIn[s][p.n] < updatesOf[hears]-1 {
					hears.opensNot(t, p, api.ErrAuth)
					continue
				}
				hears.opens(t, p)
				updatesOf[hears] = max(updatesOf[hears], sealedIn[s][p.n])
			}
			for _, x := range []*side{client, server} {
				if got, want := x.ring.Phase(), updatesOf[x]%2 == 1; got != want {
					t.Fatalf("%s is in the phase %t behind %d updates", x.name, got, updatesOf[x])
				}
			}
		}
	}
}

// TestWhatWasDroppedOpensNothing has all that opened ahead of it.
func TestWhatWasDroppedOpensNothing(t *testing.T) {
	client, server := sides(t)
	packets := []packet{client.seal(0), client.seal(1)}
	client.ring.Turn()
	packets = append(packets, client.seal(1))
	for _, p := range packets {
		server.opens(t, p)
	}
	answers(t, "Drop", server.ring.Drop(0), true)
	server.opensNot(t, packets[0], api.ErrState)
	server.opens(t, packets[1])
	server.opens(t, packets[2])
	answers(t, "Drop", server.ring.Drop(1), true)
	client.ring.Turn()
	packets = append(packets, client.seal(0), client.seal(1))
	for _, p := range packets {
		for _, phase := range []bool{false, true} {
			p.phase = phase
			server.opensNot(t, p, api.ErrState)
		}
	}
	state{}.is(t, "behind what wasn't opened", server.ring)
	for level := range 2 {
		if got := server.seal(level); len(got.sealed) != 0 {
			t.Errorf("what was dropped seals %x", got.sealed)
		}
	}
}
