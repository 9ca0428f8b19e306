package seqrun_test

import (
	"slices"
	"testing"

	"horizon/api"
	"horizon/codegen"
	"horizon/seqrun"
)

// alike steps a run and the slow one, and holds the answers, and all that can be seen behind them, against each other.
func alike(t *testing.T, s *seqrun.Sim, other *slow) api.Errno {
	t.Helper()
	e, code := s.Step()
	if x, c := other.Step(); e != x || code != c {
		t.Fatalf("Step is %v, %d, not %v, %d", e, code, x, c)
	}
	samePoint(t, "behind a Step", s.Point(), other.Point())
	sameResult(t, "behind a Step", s.Result(), other.Result())
	return code
}

// 12.2, 12.4, 12.5: thrown plans, step by step, as the words read slowly; a run that is over stays so.
func TestThrownSteps(t *testing.T) {
	m := maker{chance: 124}
	for range 1200 {
		p := m.plan(t)
		at := first(t, p)
		samePoint(t, "First", at, slowFirst(p))
		s, other := opened(t, p, at), newSlow(p, slowFirst(p))
		samePoint(t, "ahead of any Step", s.Point(), other.Point())
		sameResult(t, "ahead of any Step", s.Result(), other.Result())
		for alike(t, s, other) == api.OK {
		}
		for range 2 {
			if code := alike(t, s, other); code != api.ErrOver {
				t.Fatalf("a run that was over steps: %d", code)
			}
		}
	}
}

// 12.6, 12.7, 12.8: whole runs of thrown plans.
func TestThrownRuns(t *testing.T) {
	m := maker{chance: 126}
	for range 2000 {
		p := m.plan(t)
		want := slowRun(p)
		sameResult(t, "Run", seqrun.Run(p), want)
		if l := seqrun.Windows(p); !slices.Equal(l, slowWindows(p)) {
			t.Fatalf("Windows of %+v is %v, not %v", p, l, slowWindows(p))
		}
		each, stop := seqrun.Each(p), m.below(len(want.Trace)+2)
		for range 2 {
			var l []api.Event
			for place, e := range each {
				if place != len(l) {
					t.Fatalf("the place %d behind %d events", place, len(l))
				}
				l = append(l, e)
				if len(l) == stop {
					break
				}
			}
			if stop == 0 || stop > len(want.Trace) {
				stop = len(want.Trace)
			}
			if !slices.Equal(l, want.Trace[:stop]) {
				t.Fatalf("Each gives %s, not %s", texts(l), texts(want.Trace[:stop]))
			}
		}
		for _, n := range []int{-1, m.below(60), p.Budget - 1, p.Budget, p.Budget + 1} {
			q := p
			q.Budget = min(p.Budget, max(0, n))
			sameResult(t, n, seqrun.Prefix(p, n), slowRun(q))
		}
	}
}

// 12.6, 12.8: models from their text on, under many seeds, ends and budgets.
func TestThrownShops(t *testing.T) {
	base, err := codegen.Plan(shop)
	if err != nil {
		t.Fatal(err)
	}
	c := chance(3)
	for range 60 {
		p := cloned(base)
		p.Seed, p.End, p.Budget = c.next(), uint64(c.below(400)), c.below(200)
		p.Look = uint64(1 + c.below(6))
		sameResult(t, "Run", seqrun.Run(p), slowRun(p))
		if l := seqrun.Windows(p); !slices.Equal(l, slowWindows(p)) {
			t.Fatalf("Windows is %v, not %v", l, slowWindows(p))
		}
	}
}
