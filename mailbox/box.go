package mailbox

import "horizon/api"

// half is the things of one phase, in the order in which they were sent.
type half[T any] []T

// box is what one worker has sent to another: the half of its even phases and that of its odd ones. Its sender goes on only when the half that it comes to is empty: so all things of a half are of one phase.
type box[T any] [2]half[T]

func (b *box[T]) half(phase int) *half[T] { return &b[phase&1] }

// empty takes all things out of a half and tells how many there were. The memory stays for the next ones; it is cleared, so that it holds on to nothing that has gone.
func (h *half[T]) empty() int {
	n := len(*h)
	clear(*h)
	*h = (*h)[:0]
	return n
}

// total is how many things lie in these halves.
func total[T any](halves []*half[T]) int {
	n := 0
	for _, h := range halves {
		n += len(*h)
	}
	return n
}

// gather takes the things of all these halves out, into one new list.
func gather[T any](halves []*half[T]) []T {
	l := make([]T, 0, total(halves))
	for _, h := range halves {
		l = append(l, *h...)
		h.empty()
	}
	return l
}

func (p *Post[T]) knows(w int) bool { return w >= 0 && w < len(p.workers) }

// fail keeps the error with which a worker fails.
func (p *Post[T]) fail(w int, code api.Errno) api.Errno {
	p.workers[w].failed = code
	return code
}

// leads tells whether another worker is behind this one.
func (p *Post[T]) leads(w int) bool {
	for _, other := range p.workers {
		if other.phase < p.workers[w].phase {
			return true
		}
	}
	return false
}

// sent is the halves of all that a worker has sent in a phase.
func (p *Post[T]) sent(from, phase int) []*half[T] {
	var l []*half[T]
	for to := range p.boxes[from] {
		l = append(l, p.boxes[from][to].half(phase))
	}
	return l
}

// due is the halves of all that lies for a worker of the phase ahead of its own, if nobody is behind it. A sender that is in the next phase already has nothing of that phase left: what lies in its half is newer.
func (p *Post[T]) due(to int) []*half[T] {
	phase := p.workers[to].phase
	var l []*half[T]
	for from, sender := range p.workers {
		if sender.phase == phase {
			l = append(l, p.boxes[from][to].half(phase-1))
		}
	}
	return l
}
