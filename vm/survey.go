package vm

import "horizon/api"

const unreached = -1

// survey goes on once from each place that is reached.
type survey struct {
	code   []api.Instr
	depths []int
	open   []int // places from which it has still to go on
	beyond bool  // whether a way leads behind the last place
	uneven bool  // whether the stack runs dry, too high, or is not the same on all ways
}

// measure takes every number of the program to be one that may stand there.
func measure(p api.Program) ([]int, api.Errno) {
	s := survey{code: p.Code, depths: make([]int, len(p.Code))}
	for at := range s.depths {
		s.depths[at] = unreached
	}
	for _, at := range p.Entry {
		if at != passedOver {
			s.arrive(at, 0)
		}
	}
	for len(s.open) > 0 {
		last := len(s.open) - 1
		at := s.open[last]
		s.open = s.open[:last]
		s.goOn(at)
	}
	switch {
	case s.beyond:
		return nil, api.ErrJump
	case s.uneven:
		return nil, api.ErrStack
	}
	return s.depths, api.OK
}

func (s *survey) goOn(at int) {
	in := s.code[at]
	pops, pushes := moves(in.Op)
	depth := s.depths[at] - pops
	if depth < 0 || depth+pushes > api.MaxStack {
		// It goes on with some depth or other: a way that leads behind the last place is told ahead of this.
		s.uneven, depth = true, 0
	}
	depth += pushes
	if jumps(in.Op) {
		s.arrive(int(in.A), depth)
	}
	if !endsRow(in.Op) {
		s.arrive(at+1, depth)
	}
}

func (s *survey) arrive(at, depth int) {
	switch {
	case at == len(s.code):
		s.beyond = true
	case s.depths[at] == unreached:
		s.depths[at] = depth
		s.open = append(s.open, at)
	case s.depths[at] != depth:
		s.uneven = true
	}
}
