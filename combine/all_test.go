package combine_test

import (
	"fmt"
	"strings"
	"testing"
)

// state is what tells a net from others, as far as calls can ever tell: rounds up to an even number of them, but for the first two.
func (s *slow) state() string {
	low := s.downs[0]
	for _, x := range s.downs {
		low = min(low, x)
	}
	base := low
	if low >= 1 {
		base = 2 - low%2
	}
	var b strings.Builder
	for w := range s.workers {
		// How many tasks are left tells which flags of the round are written.
		fmt.Fprint(&b, s.downs[w]-low+base, " ", len(s.todo[w]), "/")
	}
	return b.String()
}

// calls are all that may be called on a net of so many workers.
func calls(workers, number int, names string) []call {
	var l []call
	for w := -1; w <= workers; w++ {
		for _, name := range []byte(names) {
			l = append(l, call{name, w, fmt.Sprint(number, ".", w)})
		}
	}
	return l
}

// spot is a net that was found, and the calls that lead to it.
type spot struct {
	slow *slow
	way  []call
}

func (x spot) then(c call) []call { return append(x.way[:len(x.way):len(x.way)], c) }

// explore goes to every net that can be reached, up to so many of them, and shows each.
func explore(workers, most int, join func(a, b string) string, see func(x spot)) int {
	start := newSlow(workers, join)
	todo := []spot{{slow: start}}
	seen := map[string]bool{start.state(): true}
	for len(todo) > 0 {
		x := todo[0]
		todo = todo[1:]
		see(x)
		for _, c := range calls(workers, len(x.way), "ES") {
			next := x.slow.clone()
			do(next, c)
			if key := next.state(); !seen[key] && len(seen) < most {
				seen[key] = true
				todo = append(todo, spot{next, x.then(c)})
			}
		}
	}
	return len(seen)
}

// replayed is a net behind calls.
func replayed(t *testing.T, workers int, way []call) net {
	t.Helper()
	n := made(t, workers, brackets)
	for _, c := range way {
		do(n, c)
	}
	return n
}

// 10.2 to 10.5: at every small net that can be reached, every call answers as the chapter's words read slowly, and leaves the same.
func TestEverySmallNet(t *testing.T) {
	for _, x := range []struct{ workers, most, found int }{
		{1, 1e6, 6}, {2, 1e6, 33}, {3, 1e6, 168}, {4, 1e6, 438}, {5, 1e6, 1788}, {6, 1e6, 5001}, {8, 3000, 3000},
	} {
		found := explore(x.workers, x.most, brackets, func(at spot) {
			for _, c := range calls(x.workers, len(at.way), "ES") {
				alike(t, replayed(t, x.workers, at.way), at.slow.clone(), c)
			}
		})
		if found < x.found {
			t.Errorf("%d workers: only %d nets were seen", x.workers, found)
		}
	}
}

// 10.6: at every small barrier that can be reached by Enter and Step, Wait answers as the chapter's words read slowly, and leaves the same.
func TestEverySmallBarrier(t *testing.T) {
	quiet := func(a, b string) string { return "" }
	for _, x := range []struct{ workers, most int }{{1, 1e6}, {2, 1e6}, {3, 1e6}, {4, 2000}, {7, 1000}} {
		explore(x.workers, x.most, quiet, func(at spot) {
			for _, c := range calls(x.workers, 0, "ESW") {
				b := plain{madeBarrier(t, x.workers)}
				s := newSlow(x.workers, quiet)
				for _, c := range at.way {
					c.v = ""
					do(b, c)
					do(s, c)
				}
				c.v = ""
				alike(t, b, s, c)
			}
		})
	}
}

// 10.8: from every small net at which all are inside one round, all come through it in time, whether they step in turn, the other way round, or with steps of others between.
func TestFromEverySmallNetAllComeThrough(t *testing.T) {
	for _, x := range []struct{ workers, most, least int }{{1, 1e6, 3}, {2, 1e6, 9}, {3, 1e6, 21}, {4, 1e6, 33}, {5, 1e6, 57}, {7, 5000, 50}} {
		tried := 0
		explore(x.workers, x.most, brackets, func(at spot) {
			round := len(at.slow.brought[0])
			for w := range x.workers {
				if !at.slow.Inside(w) || len(at.slow.brought[w]) != round {
					return
				}
			}
			tried++
			for _, turn := range []cycle{inTurn(x.workers), inTurn(x.workers).backward(), inTurn(x.workers).with(0, 3), inTurn(x.workers).backward().with(x.workers-1, 5)} {
				turn.run(t, replayed(t, x.workers, at.way), x.workers, round)
			}
		})
		if tried < x.least {
			t.Errorf("%d workers: only %d nets were tried", x.workers, tried)
		}
	}
}
