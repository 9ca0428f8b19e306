package store

import "horizon/api"

func (s *Store) knows(part int) bool { return part >= 0 && part < len(s.states) }

// copied is a state whose words are memory of its own.
func copied(v api.State) api.State {
	words := make([]int64, len(v.Words))
	copy(words, v.Words)
	return api.State{Words: words, Dice: v.Dice, Sent: v.Sent}
}

func copiedAll(states []api.State) []api.State {
	l := make([]api.State, len(states))
	for i, v := range states {
		l[i] = copied(v)
	}
	return l
}

// plainBytes is states as numbers of one length. How many words each state has stands ahead of them, so that the same bytes never tell of other states.
func plainBytes(states []api.State) []byte {
	b := appendNumber(nil, uint64(len(states)))
	for _, v := range states {
		b = appendNumber(b, uint64(len(v.Words)))
		for _, word := range v.Words {
			b = appendNumber(b, uint64(word))
		}
		b = appendNumber(b, v.Dice)
		b = appendNumber(b, v.Sent)
	}
	return b
}

// appendNumber appends a number's eight bytes, the lowest first.
func appendNumber(b []byte, n uint64) []byte {
	for range 8 {
		b = append(b, byte(n))
		n >>= 8
	}
	return b
}
