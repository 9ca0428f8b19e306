package seqrun

import (
	"horizon/api"
	"horizon/stamp"
)

// queue is pending events as a heap: none goes ahead of the one at half its place, so the least stands first. A run may hold more of them than a queue of layer 8.
type queue []api.Event

// least is the event with the least key of a queue that is not empty.
func (q queue) least() api.Event { return q[0] }

func (q *queue) push(e api.Event) {
	*q = append(*q, e)
	q.rise(len(*q) - 1)
}

// pop takes the least event out of a queue that is not empty.
func (q *queue) pop() api.Event {
	l := *q
	least, last := l[0], len(l)-1
	l[0] = l[last]
	*q = l[:last]
	q.sink(0)
	return least
}

func (q queue) ahead(a, b int) bool { return stamp.Compare(q[a].Key, q[b].Key) < 0 }

func (q queue) swap(a, b int) { q[a], q[b] = q[b], q[a] }

// rise moves an event up to where the one above it goes ahead of it.
func (q queue) rise(at int) {
	for at > 0 {
		up := (at - 1) / 2
		if !q.ahead(at, up) {
			return
		}
		q.swap(at, up)
		at = up
	}
}

// sink moves an event down to where it goes ahead of those below it.
func (q queue) sink(at int) {
	for {
		down := 2*at + 1
		if down >= len(q) {
			return
		}
		if other := down + 1; other < len(q) && q.ahead(other, down) {
			down = other
		}
		if !q.ahead(down, at) {
			return
		}
		q.swap(at, down)
		at = down
	}
}
