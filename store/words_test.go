package store_test

import (
	"encoding/binary"
	"hash/crc32"
	"slices"

	"horizon/api"
	"horizon/stamp"
)

// The chapter's words a second time: no state is ever given back. All Puts that were OK and were not taken back are kept, and a part's state is what the last of them to it says: what was taken back never was.

type put struct {
	part      int
	key       api.Key
	state     api.State
	committed bool
}

type slow struct {
	start []api.State
	undo  int
	puts  []put
}

func newSlow(start []api.State, undo int) *slow { return &slow{start: cloneAll(start), undo: undo} }

func (s *slow) clone() *slow { return &slow{s.start, s.undo, slices.Clone(s.puts)} }

func clone(v api.State) api.State {
	return api.State{Words: slices.Clone(v.Words), Dice: v.Dice, Sent: v.Sent}
}

func cloneAll(l []api.State) []api.State {
	out := []api.State{}
	for _, v := range l {
		out = append(out, clone(v))
	}
	return out
}

func (s *slow) State(part int) (api.State, api.Errno) {
	if part < 0 || part >= len(s.start) {
		return api.State{}, api.ErrPart
	}
	v := s.start[part]
	for _, p := range s.puts {
		if p.part == part {
			v = p.state
		}
	}
	return clone(v), api.OK
}

func (s *slow) Put(part int, k api.Key, v api.State) api.Errno {
	old, code := s.State(part)
	switch {
	case code != api.OK:
		return code
	case len(old.Words) != len(v.Words):
		return api.ErrWords
	case s.Room() < 1:
		return api.ErrUndo
	case len(s.puts) > 0 && stamp.Compare(s.puts[len(s.puts)-1].key, k) != -1:
		return api.ErrKey
	}
	s.puts = append(s.puts, put{part, k, clone(v), false})
	return api.OK
}

func (s *slow) drop(goes func(p put) bool) int {
	n := len(s.puts)
	s.puts = slices.DeleteFunc(s.puts, func(p put) bool { return !p.committed && goes(p) })
	return n - len(s.puts)
}

func (s *slow) Back(k api.Key) int {
	return s.drop(func(p put) bool { return stamp.Compare(p.key, k) != -1 })
}

func (s *slow) Clear() int { return s.drop(func(p put) bool { return true }) }

func (s *slow) Commit() int {
	n := len(s.Log())
	for i := range s.puts {
		s.puts[i].committed = true
	}
	return n
}

func (s *slow) Log() []api.Key {
	var l []api.Key
	for _, p := range s.puts {
		if !p.committed {
			l = append(l, p.key)
		}
	}
	return l
}

func (s *slow) Room() int { return s.undo - len(s.Log()) }

func (s *slow) with(counts func(p put) bool) []api.State {
	l := slices.Clone(s.start)
	for _, p := range s.puts {
		if counts(p) {
			l[p.part] = p.state
		}
	}
	return cloneAll(l)
}

func (s *slow) States() []api.State { return s.with(func(p put) bool { return true }) }

func (s *slow) Settled() []api.State { return s.with(func(p put) bool { return p.committed }) }

func (s *slow) Digest() uint32 { return slowDigest(s.States()) }

func slowDigest(states []api.State) uint32 {
	row := []uint64{uint64(len(states))}
	for _, v := range states {
		row = append(row, uint64(len(v.Words)))
		for _, x := range v.Words {
			row = append(row, uint64(x))
		}
		row = append(row, v.Dice, v.Sent)
	}
	b, _ := binary.Append(nil, binary.LittleEndian, row)
	return crc32.ChecksumIEEE(b)
}
