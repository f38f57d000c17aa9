package timers_test

import (
	"math/rand"
	"testing"

	"doorward/api"
	"doorward/timers"
)

// P12.3

// comesAhead says it as the chapter's words do.
func comesAhead(a, b api.Timer) bool {
	if a.At != b.At {
		return a.At < b.At
	}
	if a.Conn != b.Conn {
		return a.Conn < b.Conn
	}
	return a.Kind < b.Kind
}

// drawn is a timer of few connections and kinds, some below 0, within a time.
func drawn(draw *rand.Rand, from uint64, within int) api.Timer {
	return at(from+uint64(draw.Intn(within)), draw.Intn(15)-5, draw.Intn(16)-5)
}

func TestWhatIsDueComesInOrder(t *testing.T) {
	draw := rand.New(rand.NewSource(12))
	for range 300 {
		q, within := timers.New(), 1+draw.Intn(500)
		for range draw.Intn(400) {
			q.Set(drawn(draw, 0, within))
		}
		count, last := q.Len(), api.Timer{}
		for i := range count {
			x, ok := q.Due(never)
			if !ok {
				t.Fatalf("%d of %d are due", i, count)
			}
			if i > 0 && !comesAhead(last, x) {
				t.Fatalf("%v comes behind %v", x, last)
			}
			last = x
		}
		hasNone(t, q)
	}
}

// clock is a queue whose time goes on, and what was set last of each connection and kind.
type clock struct {
	queue *timers.Queue
	last  map[[2]int]uint64
	now   uint64
}

// set sets a timer, and keeps it, if there was room.
func (c *clock) set(t *testing.T, x api.Timer) {
	t.Helper()
	of := [2]int{x.Conn, x.Kind}
	_, there := c.last[of]
	if ok := c.queue.Set(x); ok != (there || len(c.last) < most) {
		t.Fatalf("Set(%v) = %v, with %d timers", x, ok, len(c.last))
	} else if ok {
		c.last[of] = x.At
	}
}

// tick is a tick of time: what is due goes, each at the time that it was last set at, or at once, if that is gone by.
func (c *clock) tick(t *testing.T, setSince uint64) {
	t.Helper()
	c.now++
	var ahead api.Timer
	for i := 0; ; i++ {
		x, ok := c.queue.Due(c.now)
		if !ok {
			break
		}
		of := [2]int{x.Conn, x.Kind}
		if last, there := c.last[of]; !there || last != x.At {
			t.Fatalf("%v is due at %d, but what was set last is %d, %v", x, c.now, last, there)
		}
		if x.At > c.now || x.At < min(c.now, setSince) {
			t.Fatalf("%v is due at %d", x, c.now)
		}
		if i > 0 && !comesAhead(ahead, x) {
			t.Fatalf("%v comes behind %v", x, ahead)
		}
		delete(c.last, of)
		ahead = x
	}
	for of, last := range c.last {
		if last <= c.now {
			t.Fatalf("%v isn't due at %d, though it is at %d", of, c.now, last)
		}
	}
}

func TestNothingIsDueAheadOfItsTimeAndWhatWasSetLastCounts(t *testing.T) {
	draw := rand.New(rand.NewSource(12))
	for range 20 {
		c := clock{queue: timers.New(), last: map[[2]int]uint64{}}
		pace, within := draw.Intn(30), 1+draw.Intn(300)
		for range 500 {
			for range draw.Intn(pace + 1) {
				c.set(t, drawn(draw, c.now+1, within))
			}
			c.tick(t, c.now+1)
		}
	}
}

func TestWhatIsSetBehindTheTimeIsDueAtOnce(t *testing.T) {
	draw := rand.New(rand.NewSource(12))
	c := clock{queue: timers.New(), last: map[[2]int]uint64{}, now: 1000}
	for range 500 {
		for range draw.Intn(20) {
			c.set(t, drawn(draw, c.now-500, 1000))
		}
		c.tick(t, 0)
	}
}

func TestWhatWasSetLastCounts(t *testing.T) {
	draw := rand.New(rand.NewSource(12))
	q, last := timers.New(), map[[2]int]uint64{}
	for range 20000 {
		x := at(uint64(draw.Intn(1000)), draw.Intn(10), draw.Intn(20))
		set(t, q, x)
		last[[2]int{x.Conn, x.Kind}] = x.At
	}
	for of, time := range last {
		isAt(t, q, of[0], of[1], time)
	}
	for range len(last) {
		x, _ := q.Due(never)
		if last[[2]int{x.Conn, x.Kind}] != x.At {
			t.Fatalf("%v is due, but what was set last is %d", x, last[[2]int{x.Conn, x.Kind}])
		}
	}
	hasNone(t, q)
}

func TestNothingThatWentIsDue(t *testing.T) {
	draw := rand.New(rand.NewSource(12))
	for range 200 {
		q, gone := timers.New(), map[[2]int]bool{}
		for range 150 {
			q.Set(drawn(draw, 0, 100))
		}
		dropped := draw.Intn(15) - 5
		q.Drop(dropped)
		for range 40 {
			x := drawn(draw, 0, 100)
			q.Cancel(x.Conn, x.Kind)
			gone[[2]int{x.Conn, x.Kind}] = true
		}
		for range q.Len() {
			x, ok := q.Due(99)
			if !ok || x.Conn == dropped || gone[[2]int{x.Conn, x.Kind}] {
				t.Fatalf("%v, %v is due", x, ok)
			}
		}
	}
}
