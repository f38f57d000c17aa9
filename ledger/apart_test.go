package ledger_test

import (
	"reflect"
	"testing"

	"doorward/api"
	"doorward/ledger"
)

// What is handed in and handed back: a ledger isn't turned by what is written to either.

// full is a packet that has lists, all of them with spare room.
func full(at uint64) api.Sent {
	frames := append(make([]api.Frame, 0, 8),
		api.Frame{Kind: api.Stream, Id: 3, Data: append(make([]byte, 0, 16), "some bytes"...)},
		api.Frame{Kind: api.Ack, Ranges: append(make([]api.Range, 0, 8), span(8, 9), span(4, 5))},
	)
	return api.Sent{At: at, Size: 100, Ask: true, Frames: frames}
}

// scribble writes all over packets, their lists, and the spare room of these.
func scribble(all []api.Sent) {
	all = all[:cap(all)]
	for i := range all {
		frames := all[i].Frames[:cap(all[i].Frames)]
		for j := range frames {
			data, ranges := frames[j].Data[:cap(frames[j].Data)], frames[j].Ranges[:cap(frames[j].Ranges)]
			for k := range data {
				data[k] = 77
			}
			for k := range ranges {
				ranges[k] = span(77, 78)
			}
			frames[j] = api.Frame{Kind: 77}
		}
		all[i] = api.Sent{Number: 77, At: 77, Size: 77}
	}
}

// checkFull fails the test, if these aren't such packets, with numbers from that one on.
func checkFull(t *testing.T, all []api.Sent, from int64, at ...uint64) {
	t.Helper()
	if len(all) != len(at) {
		t.Fatalf("%d packets, want %d", len(all), len(at))
	}
	for i, p := range all {
		want := full(at[i])
		want.Number = from + int64(i)
		if !reflect.DeepEqual(p, want) {
			t.Fatalf("%+v, want %+v", p, want)
		}
	}
}

func TestWhatIsWrittenToASentPacketDoesNotTurnALedger(t *testing.T) {
	l := new(ledger.Ledger)
	for at := range uint64(3) {
		p := full(at)
		send(t, l, int64(at), p)
		scribble([]api.Sent{p})
	}
	checkFull(t, l.List(), 0, 0, 1, 2)
	checkFull(t, ack(t, l, one(2), 2), 2, 2)
	checkFull(t, lose(t, l, 0, 0, 0), 0, 0)
}

func TestSendTurnsNothingOfAPacket(t *testing.T) {
	l := new(ledger.Ledger)
	p := full(5)
	send(t, l, 0, p, p, p)
	l.Send(api.Sent{Size: -1, Frames: p.Frames})
	scribble(l.List())
	ack(t, l, one(2), 2)
	scribble(l.Lost(5, 0))
	checkFull(t, []api.Sent{p}, 0, 5)
	for _, f := range p.Frames[:cap(p.Frames)][len(p.Frames):] {
		if !reflect.DeepEqual(f, api.Frame{}) {
			t.Errorf("the spare room has %+v", f)
		}
	}
}

func TestTheSamePacketSentTwiceStandsApart(t *testing.T) {
	l, p := new(ledger.Ledger), full(5)
	send(t, l, 0, p, p, p)
	scribble(ack(t, l, one(1), 1))
	list := l.List()
	scribble(list[:1:1])
	checkFull(t, list[1:2:2], 2, 5)
	send(t, l, 3, p)
	gone := ack(t, l, to(2, 3), 2, 3)
	scribble(gone[:1:1])
	checkFull(t, gone[1:2:2], 3, 5)
}

func TestWhatIsWrittenToAnAnswerDoesNotTurnALedger(t *testing.T) {
	l := ledgerOf(t, full(0), full(1), full(2), full(3), full(4))
	first := l.List()
	scribble(l.List())
	checkFull(t, first, 0, 0, 1, 2, 3, 4)
	scribble(first)
	checkFull(t, l.List(), 0, 0, 1, 2, 3, 4)
	scribble(ack(t, l, one(4), 4))
	checkFull(t, l.List(), 0, 0, 1, 2, 3)
	scribble(lose(t, l, 0, never, 0, 1))
	checkFull(t, l.List(), 2, 2, 3)
	if got, want := l.Flight(), 2+200i; got != want {
		t.Errorf("Flight() = %v, want %v", got, want)
	}
}

func TestWhatIsSentDoesNotTurnAnAnswer(t *testing.T) {
	l := ledgerOf(t, full(0), full(1), full(2), full(3), full(4))
	gone := ack(t, l, to(3, 4), 3, 4)
	list := l.List()
	send(t, l, 5, full(5), full(6))
	l.Lost(0, never)
	l.Drop()
	send(t, l, 7, full(7))
	checkFull(t, gone, 3, 3, 4)
	checkFull(t, list, 0, 0, 1, 2)
}

func TestAckTurnsNothingOfItsRanges(t *testing.T) {
	l := ledgerOf(t, many(10)...)
	whole := []api.Range{span(9, 9), span(2, 4), span(7, 6), span(77, 77), span(3, 3)}
	r := whole[:3:5]
	ack(t, l, r, 2, 3, 4, 9)
	ack(t, l, r)
	l.Ack(whole)
	want := []api.Range{span(9, 9), span(2, 4), span(7, 6), span(77, 77), span(3, 3)}
	if !reflect.DeepEqual(whole, want) {
		t.Errorf("%v, want %v", whole, want)
	}
	whole[0], whole[1] = span(0, 9), span(0, 9)
	checkThere(t, l, 0, 1, 5, 6, 7, 8)
}

func TestListsOfNoneAreNone(t *testing.T) {
	none := api.Frame{Data: []byte{}, Ranges: []api.Range{}}
	l := ledgerOf(t, api.Sent{Frames: []api.Frame{none, {}}}, api.Sent{Frames: []api.Frame{}}, api.Sent{})
	list := l.List()
	if len(list[0].Frames) != 2 || len(list[1].Frames) != 0 || len(list[2].Frames) != 0 {
		t.Fatalf("%+v", list)
	}
	for _, f := range list[0].Frames {
		if len(f.Data) != 0 || len(f.Ranges) != 0 {
			t.Errorf("%+v", f)
		}
	}
}

func TestLedgersAreApart(t *testing.T) {
	one, other := ledgerOf(t, many(4)...), ledgerOf(t, many(4)...)
	checkUnturned(t, other, "another ledger", func() {
		ack(t, one, to(3, 3), 3)
		lose(t, one, never, 0, 0, 1, 2)
		send(t, one, 4, many(60)...)
		one.Drop()
	})
}
