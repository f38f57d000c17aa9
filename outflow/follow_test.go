package outflow_test

import (
	"math/rand"
	"strings"
	"testing"

	"doorward/api"
	"doorward/outflow"
	"doorward/reasm"
)

// P17.4

// lane is a text that goes from one buffer to another one, by pieces that are on their way.
type lane struct {
	text         string
	out          *outflow.Buffer
	in           *reasm.Buffer
	limit        uint64 // that was told
	written      int
	way          []piece
	may, acked   []bool // of each place, and of the end: may it go out, was it acked
	got          string
	turns, again int // how many pieces went out, and how many bytes went out again
}

func laneOf(text string, window int, limit uint64) *lane {
	l := &lane{text: text, out: outflow.New(limit), in: reasm.New(window), limit: limit}
	l.may, l.acked = make([]bool, len(text)+1), make([]bool, len(text)+1)
	for i := range l.may {
		l.may[i] = true
	}
	return l
}

// write writes some more of the text, or says that it is all.
func (l *lane) write(t *testing.T, n int) {
	t.Helper()
	more := l.text[l.written:][:min(n, len(l.text)-l.written)]
	write(t, l.out, more, len(more))
	l.written += len(more)
	if l.written == len(l.text) {
		l.out.Finish()
	}
}

// places are those of a piece; the end stands behind all.
func (l *lane) places(p piece) []int {
	var all []int
	for i := range len(p.data) {
		all = append(all, int(p.off)+i)
	}
	if p.end {
		all = append(all, len(l.text))
	}
	return all
}

// send has a piece go out, and fails the test, if it isn't what was written, or may not go out.
func (l *lane) send(t *testing.T, most int) {
	t.Helper()
	sent := l.out.Sent()
	off, data, end, some := l.out.Next(most)
	if !some {
		return
	}
	l.turns++
	p := piece{off, string(data), end}
	to := off + uint64(len(data))
	if len(data) > most || to > uint64(l.written) || to > l.limit && len(data) > 0 || l.text[off:to] != p.data || end && to != uint64(len(l.text)) {
		t.Fatalf("%+v goes out of %q, of the limit %d", p, l.text[:l.written], l.limit)
	}
	for _, place := range l.places(p) {
		if !l.may[place] {
			t.Fatalf("%+v goes out, and %d wasn't lost", p, place)
		}
		l.may[place] = false
		if uint64(place) < sent {
			l.again++
		}
	}
	l.way = append(l.way, p)
}

// come has a piece come in, or the limit of the other side refuse it, if that is so.
func (l *lane) come(t *testing.T, p piece, want api.Errno) {
	t.Helper()
	if e := l.in.Put(p.off, []byte(p.data), p.end); e != want {
		t.Fatalf("Put(%d, %q, %v) = %d", p.off, p.data, p.end, e)
	}
}

func (l *lane) ack(p piece) {
	l.out.Acked(p.off, len(p.data), p.end)
	for _, place := range l.places(p) {
		l.acked[place], l.may[place] = true, false
	}
}

func (l *lane) lose(p piece) {
	l.out.Lost(p.off, len(p.data), p.end)
	for _, place := range l.places(p) {
		l.may[place] = !l.acked[place]
	}
}

// befall has something befall one of the pieces that are on their way: it comes and is acked, comes and isn't, is lost, or is taken to be lost and comes later.
func (l *lane) befall(t *testing.T, draw *rand.Rand) {
	t.Helper()
	if len(l.way) == 0 {
		return
	}
	i := draw.Intn(len(l.way))
	p := l.way[i]
	fate := draw.Intn(6)
	if fate < 3 {
		l.come(t, p, api.OK)
	}
	if fate < 2 {
		l.ack(p)
	}
	if fate == 3 || fate == 4 {
		l.lose(p)
	}
	if fate < 4 && fate != 2 {
		l.way = append(l.way[:i], l.way[i+1:]...)
	}
}

// read reads some of what came, and tells the limit, sometimes.
func (l *lane) read(t *testing.T, draw *rand.Rand) {
	t.Helper()
	l.got += string(l.in.Read(draw.Intn(20)))
	if !strings.HasPrefix(l.text, l.got) {
		t.Fatalf("%q is read of %q", l.got, l.text)
	}
	if draw.Intn(3) == 0 {
		limit := max(l.limit, l.in.Limit())
		raise(t, l.out, limit, limit > l.limit)
		l.limit = limit
	}
}

// over says whether all came, and was acked.
func (l *lane) over() bool {
	return l.out.Done() && l.in.Done() && l.got == l.text
}

func drawnText(draw *rand.Rand, count int) string {
	text := make([]byte, count)
	draw.Read(text)
	return string(text)
}

func TestAllComesWhateverIsLost(t *testing.T) {
	draw := rand.New(rand.NewSource(17))
	turns, again := 0, 0
	for range 600 {
		window := 1 + draw.Intn(60)
		l := laneOf(drawnText(draw, draw.Intn(150)), window, uint64(draw.Intn(window+1)))
		for steps := 0; !l.over(); steps++ {
			if steps > 100000 {
				t.Fatalf("%d of %d are read: %+v", len(l.got), len(l.text), tell(l.out))
			}
			switch draw.Intn(4) {
			case 0:
				l.write(t, draw.Intn(30))
			case 1:
				l.send(t, 1+draw.Intn(12))
			case 2:
				l.befall(t, draw)
			default:
				l.read(t, draw)
			}
			if l.out.Sent() > l.limit || l.out.Sent() > uint64(l.written) {
				t.Fatalf("%+v, of the limit %d", tell(l.out), l.limit)
			}
		}
		if l.out.Some() || l.out.Blocked() || !l.out.Had(0, len(l.text)) || l.in.Held() != 0 {
			t.Fatalf("%+v", tell(l.out))
		}
		turns, again = turns+l.turns, again+l.again
	}
	if turns < 5000 || again < 5000 {
		t.Errorf("%d pieces went out, and %d bytes again", turns, again)
	}
}

// As many bytes as there may be, in whichever order, where nothing is lost: each goes out once.
func TestAllComesInWhicheverOrder(t *testing.T) {
	draw := rand.New(rand.NewSource(17))
	for range 40 {
		l := laneOf(drawnText(draw, full), full, full)
		for l.write(t, full); l.out.Some(); {
			l.send(t, 1+draw.Intn(100))
		}
		count := 0
		draw.Shuffle(len(l.way), func(i, j int) { l.way[i], l.way[j] = l.way[j], l.way[i] })
		for _, p := range l.way {
			count += len(p.data)
			l.come(t, p, api.OK)
			l.ack(p)
		}
		if l.got = string(l.in.Read(full + 1)); !l.over() || l.again != 0 || count != full {
			t.Fatalf("%d bytes are read, %d went out", len(l.got), count)
		}
	}
}

// Where all is lost again and again, all goes out again, the end too.
func TestAllComesWhereAllIsLostAtFirst(t *testing.T) {
	draw := rand.New(rand.NewSource(17))
	l := laneOf(drawnText(draw, full), full, full)
	l.write(t, full)
	for range 5 {
		for l.out.Some() {
			l.send(t, 1+draw.Intn(100))
		}
		if l.out.Sent() != full || l.out.Done() {
			t.Fatalf("%+v", tell(l.out))
		}
		for _, p := range l.way {
			l.lose(p)
		}
		l.way = nil
	}
	for l.out.Some() {
		l.send(t, 1+draw.Intn(100))
	}
	for _, p := range l.way {
		l.come(t, p, api.OK)
		l.ack(p)
	}
	if l.got = string(l.in.Read(full)); !l.over() || l.again != 5*full {
		t.Fatalf("%d bytes are read, %d went out again", len(l.got), l.again)
	}
}

// A buffer that keeps to the limit of the other one isn't refused; one that is told more than that is.
func TestWhatGoesOutBelowTheLimitIsTaken(t *testing.T) {
	kept := laneOf("abcdefgh", 5, 5)
	kept.write(t, 8)
	kept.send(t, 9)
	kept.come(t, bytesAt(0, "abcde"), api.OK)
	none(t, kept.out, 9)
	told := laneOf("abcdefgh", 5, 6)
	told.write(t, 8)
	told.send(t, 9)
	told.come(t, told.way[0], api.ErrFlow)
}
