package timers

import (
	"cmp"

	"doorward/api"
)

// most is how many timers there may be.
const most = 200

// top is the place of the timer that comes ahead of all.
const top = 0

// whose is what a timer is found by: its connection and its kind.
type whose struct{ conn, kind int }

// Queue has timers in a heap: each one comes ahead of the two below it. Where each stands is kept as well, so that one may be set anew, or go, without looking for it.
type Queue struct {
	heap   [most]api.Timer
	count  int
	places map[whose]int
}

// compare is less than 0, if a comes ahead of b. It is never 0 of two in a queue, as there is one of a connection and a kind.
func compare(a, b api.Timer) int {
	return cmp.Or(cmp.Compare(a.At, b.At), cmp.Compare(a.Conn, b.Conn), cmp.Compare(a.Kind, b.Kind))
}

// all is the heap's timers, by their places; none of a nil queue.
func (q *Queue) all() []api.Timer {
	if q == nil {
		return nil
	}
	return q.heap[:q.count]
}

// placeOf is where a timer stands, and whether there is one.
func (q *Queue) placeOf(conn, kind int) (int, bool) {
	if q == nil {
		return 0, false
	}
	place, there := q.places[whose{conn, kind}]
	return place, there
}

// push puts one more timer into the heap: true, if there is room.
func (q *Queue) push(t api.Timer) bool {
	if q.count == most {
		return false
	}
	if q.places == nil { // also of a queue that nobody made
		q.places = map[whose]int{}
	}
	q.count++
	q.settle(q.count-1, t)
	return true
}

// take takes the timer of a place out of the heap. The last one, whose place there is no more, gets the place that is free then.
func (q *Queue) take(place int) api.Timer {
	gone := q.heap[place]
	delete(q.places, whose{gone.Conn, gone.Kind})
	q.count--
	last := q.heap[q.count]
	q.heap[q.count] = api.Timer{}
	if place < q.count {
		q.settle(place, last)
	}
	return gone
}

// settle puts a timer where it may stand, from a free place on. It goes up or down, never both: what comes ahead of the one above comes ahead of those below, too.
func (q *Queue) settle(place int, t api.Timer) {
	q.put(q.down(q.up(place, t), t), t)
}

// put writes a timer to a place, and the place down.
func (q *Queue) put(place int, t api.Timer) {
	q.heap[place] = t
	q.places[whose{t.Conn, t.Kind}] = place
}

// up is the place for a timer at or above a free one; those that it comes ahead of go down.
func (q *Queue) up(place int, t api.Timer) int {
	for place > top {
		above := (place - 1) / 2
		if compare(t, q.heap[above]) > 0 {
			break
		}
		q.put(place, q.heap[above])
		place = above
	}
	return place
}

// down is the place for a timer at or below a free one; those that come ahead of it go up.
func (q *Queue) down(place int, t api.Timer) int {
step:
	below := q.firstBelow(place)
	if below < q.count && compare(q.heap[below], t) < 0 {
		q.put(place, q.heap[below])
		place = below
		goto step
	}
	return place
}

// firstBelow is the place of the one that comes ahead of the two below a place; one behind all timers, if there are none.
func (q *Queue) firstBelow(place int) int {
	left := 2*place + 1
	right := left + 1
	if right < q.count && compare(q.heap[right], q.heap[left]) < 0 {
		return right
	}
	return left
}
