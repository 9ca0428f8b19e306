package splay

import "horizon/api"

// none is the place of no node. Nothing is ever put there: it has no kids, and a node with zeros for kids has none.
const none = 0

// node is an event and the places of the trees below it. A free place names the next free one as its lesser tree.
type node struct {
	event api.Event
	kids  [2]int
}

// spot is a node's place and how many nodes lie above it.
type spot struct{ place, depth int }

// settle gives an event a place: one that was left, if there is any, so that the arena never has more places than the queue once had events.
func (q *Queue) settle(e api.Event) int {
	q.size++
	at := q.free
	if at == none {
		q.nodes = append(q.nodes, node{event: e})
		return len(q.nodes) - 1
	}
	q.free = q.nodes[at].kids[less]
	q.nodes[at] = node{event: e}
	return at
}

// leave makes a place free and answers the event that was there.
func (q *Queue) leave(at int) api.Event {
	e := q.nodes[at].event
	q.nodes[at] = node{kids: [2]int{less: q.free}}
	q.free = at
	q.size--
	return e
}

// walk shows the spots of a tree in the order of keys. A spot is shown when the walk has no more need of it: who sees it may free its place.
func (q *Queue) walk(root int, see func(s spot)) {
	// Those whose lesser tree is being walked wait in a list: a tree may be as deep as it has events, too deep for calls within calls.
	var waiting []spot
	next := spot{place: root}
	for {
		for next.place != none {
			waiting = append(waiting, next)
			next = q.below(next, less)
		}
		last := len(waiting) - 1
		if last < 0 {
			return
		}
		shown := waiting[last]
		waiting = waiting[:last]
		next = q.below(shown, greater)
		see(shown)
	}
}

func (q *Queue) below(s spot, side int) spot {
	return spot{q.nodes[s.place].kids[side], s.depth + 1}
}

// handed is a list as an answer: a copy without the room that gathering it has left behind its end, so that who appends to it writes into nothing else.
func handed(l []api.Event) []api.Event {
	answer := make([]api.Event, len(l))
	copy(answer, l)
	return answer[:len(l):len(l)]
}
