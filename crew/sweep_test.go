package crew_test

import (
	"math"
	"slices"
	"testing"

	"horizon/api"
	"horizon/crew"
	"horizon/seqrun"
)

// swept holds a sweep against one run after the other.
func swept(t *testing.T, p api.Plan, seeds []uint64, hands int) []api.Result {
	t.Helper()
	l, code := crew.Sweep(p, seeds, hands)
	if code != api.OK || len(l) != len(seeds) {
		t.Fatalf("%d hands: %d results of %d seeds, %d", hands, len(l), len(seeds), code)
	}
	for i, seed := range seeds {
		q := p
		q.Seed = seed
		if got, want := tell(l[i]), tell(seqrun.Run(q)); got != want {
			t.Fatalf("%d hands, seed %d: the result is\n%s\nnot\n%s", hands, seed, got, want)
		}
	}
	return l
}

// 15.3: the chapter's example 8.
func TestExampleSweep(t *testing.T) {
	swept(t, clockwork(), []uint64{7, 8, 9}, 2)
	if l, code := crew.Sweep(clockwork(), nil, 1); len(l) != 0 || code != api.OK {
		t.Errorf("no seeds: %d results, %d", len(l), code)
	}
	for _, x := range []struct {
		seeds, hands int
		code         api.Errno
	}{{1, 0, api.ErrHands}, {1, 65, api.ErrHands}, {257, 2, api.ErrSeeds}, {257, 0, api.ErrHands}, {0, 0, api.ErrHands}, {1, math.MinInt, api.ErrHands}, {1, math.MaxInt, api.ErrHands}, {5000, 64, api.ErrSeeds}} {
		for _, p := range []api.Plan{clockwork(), {}} {
			if l, code := crew.Sweep(p, make([]uint64, x.seeds), x.hands); l != nil || code != x.code {
				t.Errorf("%d seeds, %d hands: %d results, %d", x.seeds, x.hands, len(l), code)
			}
		}
	}
}

// 15.3: the chapter's example 9, and other plans that are not valid.
func TestSweepRejected(t *testing.T) {
	for _, p := range notValid() {
		for _, r := range swept(t, p, []uint64{1, 2}, 3) {
			if r.Kind != api.Rejected || r.Code != seqrun.Valid(p) {
				t.Errorf("the result is\n%s", tell(r))
			}
		}
	}
	l, code := crew.Sweep(api.Plan{}, []uint64{1, 2}, 3)
	if code != api.OK || len(l) != 2 || l[0].Code != api.ErrLook || l[1].Code != api.ErrLook {
		t.Errorf("%v, %d", l, code)
	}
}

// 15.3: as many hands as can be, or fewer than seeds; as many seeds as can be; the same seed several times.
func TestSweepHands(t *testing.T) {
	p := scenario(t, shop)
	p.Budget = 40
	few := []uint64{7, 8, 7, 0, math.MaxUint64, 1 << 63}
	for hands := 1; hands <= api.MaxWorkers; hands++ {
		swept(t, p, few, hands)
	}
	var many []uint64
	for i := range api.MaxStarts {
		many = append(many, uint64(i)*uint64(i))
	}
	for _, hands := range []int{1, 2, 3, 63, 64} {
		l := swept(t, p, many, hands)
		if slices.Equal(l[0].Trace, l[1].Trace) && slices.Equal(l[1].Trace, l[2].Trace) {
			t.Error("the seed does not matter")
		}
	}
}

// 15.3: thrown plans, which end in all ways.
func TestThrownSweep(t *testing.T) {
	m := maker{chance: 153}
	kinds := map[int]int{}
	for range 150 {
		p := m.plan(t)
		var seeds []uint64
		for range m.below(12) {
			seeds = append(seeds, m.next())
		}
		for _, r := range swept(t, p, seeds, 1+m.below(8)) {
			kinds[r.Kind]++
		}
	}
	if kinds[api.Done] < 40 || kinds[api.Cut] < 40 || kinds[api.Fault] < 40 {
		t.Errorf("kinds %v", kinds)
	}
}
