package mailbox_test

import (
	"fmt"
	"strings"
	"testing"

	"horizon/api"
)

// state is what tells a post from others, as far as calls can ever tell: what lies in it by ranks, and phases up to an even number of them, but for the first two.
func (s *slow) state() string {
	low := s.phases[0]
	for _, x := range s.phases {
		low = min(low, x)
	}
	base := low
	if low >= 2 {
		base = 2 + low%2
	}
	var b strings.Builder
	for w, x := range s.phases {
		fmt.Fprint(&b, x-low+base, "-", s.failed[w], " ")
	}
	for from := range s.phases {
		for to := range s.phases {
			fmt.Fprint(&b, "/")
			for _, l := range s.lying {
				if l.from == from && l.to == to {
					fmt.Fprint(&b, l.phase-low+base, "r", l.v.rank, " ")
				}
			}
		}
	}
	return b.String()
}

// calls are all that may be called on a post of so many workers, with things of so many ranks.
func calls(workers, ranks int) []call {
	var l []call
	for w := -1; w <= workers; w++ {
		for _, name := range []byte("FDB") {
			l = append(l, call{name: name, w: w})
		}
		for to := -1; to <= workers; to++ {
			for r := range ranks {
				l = append(l, call{name: 'S', w: w, to: to, v: thing{rank: r}})
			}
		}
	}
	return l
}

// spot is a post that was found, and the calls that lead to it.
type spot struct {
	slow *slow
	way  []call
}

func (x spot) then(c call) []call { return append(x.way[:len(x.way):len(x.way)], c) }

// explore goes to every post that can be reached, up to so many of them, and shows each.
func explore(workers, room, ranks, most int, see func(x spot)) int {
	start := newSlow(workers, room)
	todo := []spot{{slow: start}}
	seen := map[string]bool{start.state(): true}
	for len(todo) > 0 {
		x := todo[0]
		todo = todo[1:]
		see(x)
		for _, c := range calls(workers, ranks) {
			c.v.name = len(x.way)
			next := x.slow.clone()
			do(next, c)
			if key := next.state(); !seen[key] && len(seen) < most {
				seen[key] = true
				todo = append(todo, spot{next, x.then(c)})
			}
		}
	}
	return len(seen)
}

// 9.2 to 9.8: at every small post that can be reached, every call answers as the chapter's words read slowly, and leaves the same.
func TestEverySmallPost(t *testing.T) {
	for _, x := range []struct{ workers, room, ranks, most, found int }{
		{1, 1, 2, 1e6, 60}, {1, 2, 2, 1e6, 200}, {1, 3, 1, 1e6, 60}, {2, 1, 1, 1e6, 2000}, {2, 1, 2, 4000, 4000}, {2, 2, 1, 4000, 4000}, {3, 1, 1, 4000, 4000},
	} {
		found := explore(x.workers, x.room, x.ranks, x.most, func(at spot) {
			for _, c := range calls(x.workers, x.ranks) {
				c.v.name = len(at.way)
				p := made(t, x.workers, x.room, byRank)
				for _, c := range at.way {
					do(p, c)
				}
				alike(t, p, at.slow.clone(), c)
			}
		})
		if found < x.found {
			t.Errorf("%d workers, room %d, %d ranks: only %d posts were seen", x.workers, x.room, x.ranks, found)
		}
	}
}

// 9.11: at every small post that can be reached, and where nobody has failed, somebody may flip, or drain something.
func TestNobodyWaitsForEver(t *testing.T) {
	for _, x := range []struct{ workers, room, most int }{{1, 2, 1e6}, {2, 1, 1e6}, {2, 2, 5000}, {3, 1, 10000}} {
		seen := 0
		explore(x.workers, x.room, 1, x.most, func(at spot) {
			for _, code := range at.slow.failed {
				if code != api.OK {
					return
				}
			}
			seen++
			for w := range x.workers {
				for _, name := range []byte("FD") {
					p := made(t, x.workers, x.room, byRank)
					for _, c := range at.way {
						do(p, c)
					}
					a := do(p, call{name: name, w: w})
					if a.code == api.OK && (name == 'F' || len(a.list) > 0) {
						return
					}
				}
			}
			t.Errorf("behind %v nobody can go on", at.way)
		})
		if seen < 10 {
			t.Errorf("%d workers: only %d posts were seen", x.workers, seen)
		}
	}
}
