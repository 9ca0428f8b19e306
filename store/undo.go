package store

import (
	"horizon/api"
	"horizon/stamp"
)

// entry is what it takes to take back what was put under a key.
type entry struct {
	api.Key
	part  int
	was   api.State // what the part had ahead of it
	first bool      // whether the part had not changed since the last Commit
}

// rises tells whether a key is above that of the latest Put that was not taken back.
func (s *Store) rises(k api.Key) bool {
	if n := len(s.log); n > 0 {
		return stamp.Compare(k, s.log[n-1].Key) > 0
	}
	return !s.committed || stamp.Compare(k, s.final) > 0
}

// note keeps what a part has, ahead of a change under a key.
func (s *Store) note(part int, k api.Key) {
	was := s.states[part]
	_, changed := s.settled[part]
	if !changed {
		s.settled[part] = was
	}
	s.log = append(s.log, entry{Key: k, part: part, was: was, first: !changed})
}

// takeBack gives a part what it had ahead of a change.
func (s *Store) takeBack(e entry) {
	s.states[e.part] = e.was
	if e.first {
		delete(s.settled, e.part)
	}
}

// forget empties the log and tells how many entries it had: from now on what the parts have is settled.
func (s *Store) forget() int {
	clear(s.settled)
	return s.shorten(0)
}

// shorten leaves so many entries in the log and tells how many went. Their places are cleared, so that the log's memory holds on to no state that has gone.
func (s *Store) shorten(left int) int {
	gone := s.log[left:]
	clear(gone)
	s.log = s.log[:left]
	return len(gone)
}
