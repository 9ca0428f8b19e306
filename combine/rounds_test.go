package combine_test

import (
	"fmt"
	"slices"
	"testing"

	"horizon/api"
)

// cycle is the workers of so many calls of Step, again and again: if each worker is in it, each is stepped within any calls as many as its length.
type cycle []int

func inTurn(workers int) (c cycle) {
	for w := range workers {
		c = append(c, w)
	}
	return c
}

func (c cycle) backward() cycle {
	c = slices.Clone(c)
	slices.Reverse(c)
	return c
}

// with has so many steps of one worker more.
func (c cycle) with(w, more int) cycle {
	return append(slices.Clone(c), slices.Repeat([]int{w}, more)...)
}

// run steps till all are through a round, which must be in time.
func (c cycle) run(t *testing.T, n net, workers, round int) {
	t.Helper()
	for made := 0; !allThrough(n, workers, round); made++ {
		if made == 5*levels(workers)*len(c) {
			t.Fatalf("%d workers, stepped by %v: not all are through round %d behind %d steps", workers, c, round, made)
		}
		n.Step(c[made%len(c)])
	}
}

func allThrough(n interface{ Rounds(w int) int }, workers, round int) bool {
	for w := range workers {
		if n.Rounds(w) < round {
			return false
		}
	}
	return true
}

// 10.8: nets of all sizes come through round by round, in whatever cycle the workers are stepped.
func TestCycles(t *testing.T) {
	c := chance(108)
	for workers := 1; workers <= 64; workers++ {
		cycles := []cycle{inTurn(workers), inTurn(workers).backward(), c.shuffled(workers), c.shuffled(workers), cycle(c.shuffled(workers)).with(workers-1, workers), inTurn(workers).backward().with(0, 7)}
		n, s := made(t, workers, brackets), newSlow(workers, brackets)
		for i, x := range cycles {
			for _, w := range c.shuffled(workers) {
				alike(t, n, s, call{'E', w, fmt.Sprint(w)})
			}
			x.run(t, n, workers, i+1)
			x.run(t, s, workers, i+1)
			sameLook(t, n, s, x)
		}
	}
}

// lazy picks the steps that bring a net on as late as it can: somebody who waits, or is outside, before anybody else, as long as each worker can still be stepped within any so many calls.
type lazy struct {
	within int
	left   []int // by the worker: within how many calls it must be stepped
}

// can tells whether all others can still be stepped in time if w is stepped now.
func (l *lazy) can(w int) bool {
	var others []int
	for x, left := range l.left {
		if x != w {
			others = append(others, left)
		}
	}
	slices.Sort(others)
	for i, left := range others {
		if left < i+2 {
			return false
		}
	}
	return true
}

func (l *lazy) next(c *chance, s *slow) int {
	order := c.shuffled(len(l.left))
	slices.SortStableFunc(order, func(a, b int) int { return idle(s, b) - idle(s, a) })
	for _, w := range order {
		if l.can(w) {
			for x := range l.left {
				l.left[x]--
			}
			l.left[w] = l.within
			return w
		}
	}
	panic("no worker can be stepped in time")
}

// idle is 1 where a step changes nothing.
func idle(s *slow, w int) int {
	if !s.Inside(w) || s.waits(w) {
		return 1
	}
	return 0
}

// 10.8: who picks the steps may delay a net as much as it can: all are through in time.
func TestLazySteps(t *testing.T) {
	c := chance(8)
	slowest := 0
	for _, workers := range []int{1, 2, 3, 4, 5, 7, 8, 15, 16, 31, 40} {
		for _, within := range []int{workers, workers + 1, 2 * workers, 3*workers + 5} {
			n, s := made(t, workers, brackets), newSlow(workers, brackets)
			l := &lazy{within, slices.Repeat([]int{within}, workers)}
			for round := 1; round <= 3; round++ {
				for _, w := range c.shuffled(workers) {
					alike(t, n, s, call{'E', w, fmt.Sprint(round, ".", w)})
				}
				steps := 0
				for ; !allThrough(n, workers, round); steps++ {
					if steps == 5*levels(workers)*within {
						t.Fatalf("%d workers, each stepped within %d steps: not all are through behind %d", workers, within, steps)
					}
					w := l.next(&c, s)
					if a, b := do(n, call{name: 'S', w: w}), do(s, call{name: 'S', w: w}); a != b {
						t.Fatalf("Step(%d) is %v, not %v", w, a, b)
					}
				}
				slowest = max(slowest, steps/within)
				sameLook(t, n, s, "a round")
			}
		}
	}
	if slowest < 10 {
		t.Errorf("nothing was delayed: the slowest round took %d times the steps within which each is stepped", slowest)
	}
}

// 10.7: whatever is called, nobody is through a round that somebody has not entered; all that are through equally many rounds are told one value; a step turns at most one flag, of its own cell, and nothing else turns any.
func TestWhatAlwaysHolds(t *testing.T) {
	c := chance(107)
	turned, ahead := 0, 0
	for range 60 {
		workers := pick(&c, []int{1, 2, 3, 4, 5, 8, 13, 64})
		n := made(t, workers, brackets)
		told := map[int]string{}
		for i := range 300 * workers {
			x := c.thrown(workers, i, "ESSSS")
			before := n.Cells()
			do(n, x)
			for w, cell := range n.Cells() {
				flags := 0
				if cell.Up != before[w].Up {
					flags++
				}
				if cell.Down != before[w].Down {
					flags++
				}
				turned += flags
				if flags > 0 && (x.name != 'S' || x.w != w) || flags > 1 {
					t.Fatalf("%v: the cell of %d was %v, is %v", x, w, before[w], cell)
				}
			}
			if cell := n.Cells()[0]; cell.Up {
				t.Fatalf("%v: the root's Up is written", x)
			}
			entered, most := 1<<40, 0
			for w := range workers {
				k := n.Rounds(w)
				most = max(most, k)
				if n.Inside(w) {
					entered = min(entered, k+1)
				} else {
					entered = min(entered, k)
				}
				v, code := n.Value(w)
				if (code == api.ErrEmpty) != (k == 0) || told[k] != "" && told[k] != v {
					t.Fatalf("behind %v worker %d is through %d rounds, and told %q, %d, not %q", x, w, k, v, code, told[k])
				}
				told[k] = v
			}
			if most > entered {
				t.Fatalf("behind %v somebody is through round %d, somebody has entered %d", x, most, entered)
			}
			if most == entered {
				ahead++
			}
		}
	}
	if turned < 5000 || ahead < 1000 {
		t.Errorf("only %d flags were turned, and only %d times was somebody through", turned, ahead)
	}
}

// 10.2 to 10.6: thrown calls on nets and barriers of many sizes answer as the chapter's words read slowly.
func TestThrownCalls(t *testing.T) {
	quiet := func(a, b string) string { return "" }
	c := chance(10)
	codes := map[api.Errno]int{}
	through := 0
	for i := range 120 {
		workers := pick(&c, []int{1, 2, 3, 4, 5, 7, 16, 64})
		var n net = made(t, workers, brackets)
		s, names := newSlow(workers, brackets), pick(&c, []string{"ES", "ESSSSS", "EESSS"})
		if i%3 == 0 {
			n, s, names = plain{madeBarrier(t, workers)}, newSlow(workers, quiet), pick(&c, []string{"W", "ESW", "WWWWWE"})
		}
		for j := range 600 {
			x := c.thrown(workers, j, names)
			if i%3 == 0 {
				x.v = ""
			}
			a := alike(t, n, s, x)
			codes[a.code]++
			if a.through {
				through++
			}
		}
	}
	for code, n := range map[api.Errno]int{api.OK: 10000, api.ErrWho: 1000, api.ErrInside: 1000, api.ErrOutside: 1000} {
		if codes[code] < n {
			t.Errorf("only %d calls were answered by %d", codes[code], code)
		}
	}
	if through < 2000 {
		t.Errorf("only %d times was somebody through", through)
	}
}

// 10.7: whatever the order of steps, the joined value of a round is the same.
func TestAnyOrderOfSteps(t *testing.T) {
	const rounds = 4
	for _, workers := range []int{1, 2, 3, 4, 6, 9, 20} {
		var first []string
		for order := range 20 {
			c := chance(order)
			n := made(t, workers, brackets)
			told := make([]string, rounds)
			for calls := 0; !allThrough(n, workers, rounds); calls++ {
				if calls > 1e6 {
					t.Fatalf("%d workers, order %d: they wait for ever", workers, order)
				}
				w := c.below(workers)
				if order%3 == 1 {
					w = calls / (1 + order) % workers
				}
				k := n.Rounds(w)
				n.Enter(w, fmt.Sprint(w, "/", k))
				if ok, _ := n.Step(w); ok && k < rounds {
					v, _ := n.Value(w)
					if told[k] != "" && told[k] != v {
						t.Fatalf("%d workers, order %d, round %d: %q, and %q", workers, order, k, told[k], v)
					}
					told[k] = v
				}
			}
			if order == 0 {
				first = told
			}
			if !slices.Equal(told, first) {
				t.Fatalf("%d workers, order %d: %q, not %q", workers, order, told, first)
			}
		}
	}
}
