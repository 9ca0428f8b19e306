package combine

import "horizon/api"

// Where a worker stands: outside, or ahead of a step of its round. The steps stand in their order.
const (
	outside       = iota
	readsFirst    // joins what its first child has told
	readsSecond   // joins what its second child has told
	tellsParent   // lays open what it has
	readsParent   // takes the joined value
	tellsChildren // lays the joined value open, and is through
)

// worker is what a worker knows for itself.
type worker[T any] struct {
	place  int
	rounds int
	has    T // what it has joined; behind its parent's answer, the joined value
}

// cell is what others see of a worker: its flags, and the values beside them.
type cell[T any] struct {
	flags    api.Cell
	up, down T
}

func (n *Net[T]) knows(w int) bool { return w >= 0 && w < len(n.workers) }

// sense is what the flags of the round become in which a worker is. They become the opposite in the next one, so that nobody need set them back.
func (n *Net[T]) sense(w int) bool { return n.workers[w].rounds%2 == 0 }

// step makes the next step of a worker that is inside. A step that it has no use for is none: the worker falls through to the one behind.
func (n *Net[T]) step(w int) {
	switch n.workers[w].place {
	case readsFirst:
		if first := 2*w + 1; n.knows(first) {
			n.hearChild(w, first)
			return
		}
		fallthrough
	case readsSecond:
		if second := 2*w + 2; n.knows(second) {
			n.hearChild(w, second)
			return
		}
		fallthrough
	case tellsParent:
		if w > 0 {
			n.rise(w)
			return
		}
		fallthrough
	case readsParent:
		if w > 0 {
			n.hearParent(w)
			return
		}
		fallthrough
	case tellsChildren:
		n.leave(w)
	}
}

// hearChild joins what a child has told, if it has told it in this round, and goes on to the next step.
func (n *Net[T]) hearChild(w, child int) {
	me := &n.workers[w]
	c := &n.cells[child]
	if c.flags.Up != n.sense(w) {
		return
	}
	me.has = n.join(me.has, c.up)
	me.place++
}

// rise lays open to the parent what a worker has.
func (n *Net[T]) rise(w int) {
	var none T
	me := &n.workers[w]
	c := &n.cells[w]
	c.flags.Up, c.up = n.sense(w), me.has
	me.place, me.has = readsParent, none
}

// hearParent takes the joined value, if the parent has told it in this round.
func (n *Net[T]) hearParent(w int) {
	me := &n.workers[w]
	c := &n.cells[(w-1)/2]
	if c.flags.Down != n.sense(w) {
		return
	}
	me.place, me.has = tellsChildren, c.down
}

// leave lays the joined value open to the children and ends the worker's round. The parent has read what the worker told it: nothing of it is held on to.
func (n *Net[T]) leave(w int) {
	var none T
	me := &n.workers[w]
	c := &n.cells[w]
	c.flags.Down, c.down, c.up = n.sense(w), me.has, none
	*me = worker[T]{place: outside, rounds: me.rounds + 1}
}
