package combine_test

import (
	"cmp"
	"slices"

	"horizon/api"
	"horizon/stamp"
)

// The chapter's words a second time: nothing is handed from worker to worker. All that was ever brought is kept; a round's joined value is reckoned from that, by the words that say what it is. It is counted how often each flag was written: it was written once a round, so the count tells the round, and whether it is odd tells the flag.

type task struct {
	what  byte // c: reads a child; u: writes its Up; p: reads the parent; d: writes its Down
	child int
}

type slow struct {
	workers int
	join    func(a, b string) string
	brought [][]string // by the worker, then by its rounds
	todo    [][]task   // what is left of a worker's round
	ups     []int
	downs   []int
}

func newSlow(workers int, join func(a, b string) string) *slow {
	return &slow{workers, join, make([][]string, workers), make([][]task, workers), make([]int, workers), make([]int, workers)}
}

func (s *slow) clone() *slow {
	c := newSlow(s.workers, s.join)
	copy(c.ups, s.ups)
	copy(c.downs, s.downs)
	for w := range s.workers {
		c.brought[w] = slices.Clone(s.brought[w])
		c.todo[w] = slices.Clone(s.todo[w])
	}
	return c
}

func (s *slow) worker(w int) bool { return 0 <= w && w < s.workers }

// joined is J(w) of a round.
func (s *slow) joined(round, w int) string {
	v := s.brought[w][round-1]
	for _, child := range []int{2*w + 1, 2*w + 2} {
		if child < s.workers {
			v = s.join(v, s.joined(round, child))
		}
	}
	return v
}

func (s *slow) Enter(w int, v string) api.Errno {
	if !s.worker(w) {
		return api.ErrWho
	}
	if len(s.todo[w]) > 0 {
		return api.ErrInside
	}
	s.brought[w] = append(s.brought[w], v)
	for _, child := range []int{2*w + 1, 2*w + 2} {
		if child < s.workers {
			s.todo[w] = append(s.todo[w], task{'c', child})
		}
	}
	if w != 0 {
		s.todo[w] = append(s.todo[w], task{what: 'u'}, task{what: 'p'})
	}
	s.todo[w] = append(s.todo[w], task{what: 'd'})
	return api.OK
}

// waits tells whether a step of a worker that is inside would leave all as it is.
func (s *slow) waits(w int) bool {
	round := len(s.brought[w])
	switch x := s.todo[w][0]; x.what {
	case 'c':
		return s.ups[x.child] < round
	case 'p':
		return s.downs[(w+1)/2-1] < round
	}
	return false
}

func (s *slow) Step(w int) (bool, api.Errno) {
	if !s.worker(w) {
		return false, api.ErrWho
	}
	if len(s.todo[w]) == 0 {
		return false, api.ErrOutside
	}
	if s.waits(w) {
		return false, api.OK
	}
	x := s.todo[w][0]
	s.todo[w] = s.todo[w][1:]
	switch x.what {
	case 'u':
		s.ups[w]++
	case 'd':
		s.downs[w]++
	}
	return x.what == 'd', api.OK
}

func (s *slow) Wait(w int) (bool, api.Errno) {
	if s.worker(w) && len(s.todo[w]) == 0 {
		s.Enter(w, "")
	}
	return s.Step(w)
}

func (s *slow) Value(w int) (string, api.Errno) {
	if !s.worker(w) {
		return "", api.ErrWho
	}
	if s.downs[w] == 0 {
		return "", api.ErrEmpty
	}
	return s.joined(s.downs[w], 0), api.OK
}

func (s *slow) Rounds(w int) int {
	if !s.worker(w) {
		return 0
	}
	return s.downs[w]
}

func (s *slow) Inside(w int) bool { return s.worker(w) && len(s.todo[w]) > 0 }

func (s *slow) Cells() []api.Cell {
	var l []api.Cell
	for w := range s.workers {
		l = append(l, api.Cell{Up: s.ups[w]%2 == 1, Down: s.downs[w]%2 == 1})
	}
	return l
}

// levels is the Levels of a net, by the chapter's words.
func levels(workers int) int {
	n := 1
	for _, more := range []int{2, 4, 8, 16, 32, 64} {
		if workers >= more {
			n++
		}
	}
	return n
}

// slowLeast joins votes: of those who say something, the first in order is taken.
func slowLeast(votes ...api.Vote) api.Vote {
	var lows, faults []api.Vote
	var v api.Vote
	for _, x := range votes {
		if x.Any {
			lows = append(lows, x)
		}
		if x.Fault {
			faults = append(faults, x)
		}
		v.Bad = v.Bad || x.Bad
		v.Count = int(uint64(v.Count) + uint64(x.Count))
	}
	slices.SortStableFunc(lows, func(a, b api.Vote) int { return cmp.Compare(a.Low, b.Low) })
	slices.SortStableFunc(faults, func(a, b api.Vote) int { return stamp.Compare(a.At, b.At) })
	if len(lows) > 0 {
		v.Any, v.Low = true, lows[0].Low
	}
	if len(faults) > 0 {
		v.Fault, v.At, v.Code = true, faults[0].At, faults[0].Code
	}
	return v
}
