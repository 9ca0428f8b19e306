package store_test

import (
	"fmt"
	"testing"

	"horizon/api"
)

// small is a part with a word and one with none.
func small() []api.State { return []api.State{state(0, 0, 0), state(0, 0)} }

func smallKeys() []api.Key { return []api.Key{key(1, -1, 0), key(1, 0, 0), key(1, 0, 1)} }

// smallCalls are all that may be called on a small store, but for Puts of many values; the words of a part that is not there are as many as those of one that is.
func smallCalls() []call {
	l := []call{{name: 'E'}, {name: 'C'}, {name: 'B', key: key(0, 9, 9)}, {name: 'B', key: key(1, 0, 2)}}
	for _, k := range smallKeys() {
		l = append(l, call{name: 'B', key: k})
		for part := -1; part <= 2; part++ {
			l = append(l, call{'P', part, k, state(0, 1, 0)}, call{'P', part, k, state(0, 1)}, call{'P', part, k, state(1, 0, 1)}, call{'P', part, k, state(1, 0)})
		}
	}
	return l
}

// state is what tells a store from others, as far as calls can ever tell.
func (s *slow) state() string {
	final, open := api.Key{}, []put{}
	committed := false
	for _, p := range s.puts {
		if p.committed {
			final, committed = p.key, true
		} else {
			open = append(open, p)
		}
	}
	return fmt.Sprint(s.Settled(), committed, final, open)
}

// spot is a store that was found, and the calls that lead to it.
type spot struct {
	slow *slow
	way  []call
}

// explore goes to every small store that can be reached, and shows each.
func explore(undo int, see func(x spot)) int {
	start := newSlow(small(), undo)
	todo := []spot{{slow: start}}
	seen := map[string]bool{start.state(): true}
	for len(todo) > 0 {
		x := todo[0]
		todo = todo[1:]
		see(x)
		for _, c := range smallCalls() {
			next := x.slow.clone()
			do(next, c)
			if name := next.state(); !seen[name] {
				seen[name] = true
				todo = append(todo, spot{next, append(x.way[:len(x.way):len(x.way)], c)})
			}
		}
	}
	return len(seen)
}

// 11.2 to 11.7: at every small store that can be reached, every call answers as the chapter's words read slowly, and leaves the same.
func TestEverySmallStore(t *testing.T) {
	for undo, found := range []int{1, 97, 209, 273} {
		n := explore(undo, func(at spot) {
			for _, c := range smallCalls() {
				s := made(t, small(), undo)
				for _, c := range at.way {
					do(s, c)
				}
				alike(t, s, at.slow.clone(), c)
			}
		})
		if n < found {
			t.Errorf("undo %d: only %d stores were seen", undo, n)
		}
	}
}

// 11.8: at every small store that can be reached, two Puts under a key or above it, and Back of that key, leave what was there.
func TestEverySmallDetour(t *testing.T) {
	tried := 0
	explore(2, func(at spot) {
		for _, k := range smallKeys() {
			log := at.slow.Log()
			if len(log) > 0 && !rises(log[len(log)-1], k) {
				continue
			}
			for _, first := range smallCalls() {
				if first.name != 'P' || rises(first.key, k) {
					continue
				}
				for _, second := range smallCalls() {
					if second.name != 'P' || rises(second.key, k) || second.part != 0 {
						continue
					}
					s := made(t, small(), 2)
					for _, c := range at.way {
						do(s, c)
					}
					taken := 0
					for _, c := range []call{first, second} {
						if do(s, c).code == api.OK {
							taken++
						}
					}
					wantCount(t, "Back", s.Back(k), taken)
					sameLook(t, s, at.slow, []call{first, second})
					tried++
				}
			}
		}
	})
	if tried < 1000 {
		t.Errorf("only %d were tried", tried)
	}
}
