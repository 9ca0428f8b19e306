package mailbox_test

import (
	"slices"

	"horizon/api"
)

// The chapter's words a second time: all that lies in a post is one list, in the order of sending; each thing tells whose it is, and each call goes through all of it.

type letter struct {
	from, to, phase int
	v               thing
}

type slow struct {
	room   int
	phases []int
	failed []api.Errno
	lying  []letter
}

func newSlow(workers, room int) *slow {
	return &slow{room: room, phases: make([]int, workers), failed: make([]api.Errno, workers)}
}

func (s *slow) clone() *slow {
	return &slow{s.room, slices.Clone(s.phases), slices.Clone(s.failed), slices.Clone(s.lying)}
}

func (s *slow) worker(w int) bool { return 0 <= w && w < len(s.phases) }

func (s *slow) count(which func(l letter) bool) int {
	n := 0
	for _, l := range s.lying {
		if which(l) {
			n++
		}
	}
	return n
}

// take takes things out of the post; they are the answer.
func (s *slow) take(which func(l letter) bool) []letter {
	var gone, stay []letter
	for _, l := range s.lying {
		if which(l) {
			gone = append(gone, l)
		} else {
			stay = append(stay, l)
		}
	}
	s.lying = stay
	return gone
}

func (s *slow) Send(from, to int, v thing) api.Errno {
	if !s.worker(from) {
		return api.ErrWho
	}
	if s.failed[from] != api.OK {
		return s.failed[from]
	}
	if !s.worker(to) {
		s.failed[from] = api.ErrWho
		return api.ErrWho
	}
	if s.count(func(l letter) bool { return l.from == from && l.to == to && l.phase == s.phases[from] }) == s.room {
		s.failed[from] = api.ErrBox
		return api.ErrBox
	}
	s.lying = append(s.lying, letter{from, to, s.phases[from], v})
	return api.OK
}

func (s *slow) Flip(w int) api.Errno {
	if !s.worker(w) {
		return api.ErrWho
	}
	if s.failed[w] != api.OK {
		return s.failed[w]
	}
	if slices.Min(s.phases) < s.phases[w] {
		return api.ErrPhase
	}
	if s.count(func(l letter) bool { return l.phase == s.phases[w]-1 && (l.from == w || l.to == w) }) > 0 {
		return api.ErrPhase
	}
	s.phases[w]++
	return api.OK
}

func (s *slow) Phase(w int) int {
	if s.worker(w) {
		return s.phases[w]
	}
	return -1
}

func (s *slow) Drain(to int) ([]thing, api.Errno) {
	if !s.worker(to) {
		return nil, api.ErrWho
	}
	if slices.Min(s.phases) < s.phases[to] {
		return nil, api.ErrPhase
	}
	left := s.take(func(l letter) bool { return l.to == to && l.phase == s.phases[to]-1 })
	var list []thing
	for len(left) > 0 {
		// The first of them is the one that no other goes ahead of; of one sender the list has the one that was sent first first.
		first := 0
		for i, l := range left {
			f := left[first]
			if l.v.rank < f.v.rank || l.v.rank == f.v.rank && l.from < f.from {
				first = i
			}
		}
		list = append(list, left[first].v)
		left = slices.Delete(left, first, first+1)
	}
	return list, api.OK
}

func (s *slow) Drop(from int) (int, api.Errno) {
	if !s.worker(from) {
		return 0, api.ErrWho
	}
	s.failed[from] = api.OK
	return len(s.take(func(l letter) bool { return l.from == from && l.phase == s.phases[from] })), api.OK
}

func (s *slow) Waiting(to int) (int, api.Errno) {
	if !s.worker(to) {
		return 0, api.ErrWho
	}
	return s.count(func(l letter) bool { return l.to == to }), api.OK
}

func (s *slow) Err(from int) api.Errno {
	if !s.worker(from) {
		return api.ErrWho
	}
	return s.failed[from]
}
