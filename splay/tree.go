package splay

import (
	"horizon/api"
	"horizon/stamp"
)

// The sides of a node; the two trees into which a tree is opened.
const (
	less = iota
	greater
	here // no side: what is sought is the node itself
)

// halves are those two trees as far as they are built: the root of each, and its last node, on which the next tree is hung.
type halves struct{ roots, lasts [2]int }

// hang puts a tree below the last node of a half, on the side where the sought key lies; what stood there is either in the other half by now or still to be opened.
func (q *Queue) hang(h *halves, half, tree int) {
	if last := h.lasts[half]; last == none {
		h.roots[half] = tree
	} else {
		q.nodes[last].kids[1-half] = tree
	}
	h.lasts[half] = tree
}

// open takes a tree apart: what is less than what is sought, its node (or none), what is greater. way tells on which side of a node it lies. The tree is gone down two nodes at a time.
func (q *Queue) open(at int, way func(at int) int) (a, found, b int) {
	var h halves
down:
	for at != none {
		side := way(at)
		if side == here {
			break
		}
		other, kid := 1-side, q.nodes[at].kids[side]
		if kid == none {
			q.hang(&h, other, at)
			at = none
			break
		}
		q.work++
		switch way(kid) {
		case here:
			q.hang(&h, other, at)
			at = kid
			break down
		case side:
			q.turn(at, side)
			q.hang(&h, other, kid)
			at = q.nodes[kid].kids[side]
		default:
			q.hang(&h, other, at)
			q.hang(&h, side, kid)
			at = q.nodes[kid].kids[other]
		}
		if at != none {
			q.work++
		}
	}
	// What was found leaves its two trees; none has no kids.
	rest := q.nodes[at].kids
	q.hang(&h, less, rest[less])
	q.hang(&h, greater, rest[greater])
	return h.roots[less], at, h.roots[greater]
}

// turn puts a node below its kid on a side.
func (q *Queue) turn(at, side int) {
	kid := q.nodes[at].kids[side]
	q.nodes[at].kids[side] = q.nodes[kid].kids[1-side]
	q.nodes[kid].kids[1-side] = at
}

// least is the first node of a tree that is not empty, and the tree of the others.
func (q *Queue) least(tree int) (first, rest int) {
	_, first, rest = q.open(tree, func(at int) int {
		if q.nodes[at].kids[less] == none {
			return here
		}
		return less
	})
	return first, rest
}

// join makes one tree of two, all keys of the first being less than those of the second.
func (q *Queue) join(a, b int) int {
	if b == none {
		return a
	}
	if a == none {
		return b
	}
	first, rest := q.least(b)
	return q.link(a, first, rest)
}

// link is a tree of a node and the trees that lie below it.
func (q *Queue) link(a, root, b int) int {
	q.nodes[root].kids = [2]int{less: a, greater: b}
	return root
}

// toKey is the way to a key.
func (q *Queue) toKey(k api.Key) func(at int) int {
	return func(at int) int {
		switch stamp.Compare(k, q.nodes[at].event.Key) {
		case -1:
			return less
		case 1:
			return greater
		}
		return here
	}
}

// toTime is the way to the gap ahead of the first key of a time.
func (q *Queue) toTime(t uint64) func(at int) int {
	return func(at int) int {
		if q.nodes[at].event.Key.Time >= t {
			return less
		}
		return greater
	}
}
