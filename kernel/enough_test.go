package kernel_test

import (
	"math"
	"testing"

	"horizon/api"
	"horizon/kernel"
)

// levels is chapter 10's: 1 for one worker, and one more each time when their number reaches 2, 4, 8, 16, 32, 64.
func levels(workers int) int {
	n := 1
	for _, reached := range []int{2, 4, 8, 16, 32, 64} {
		if workers >= reached {
			n++
		}
	}
	return n
}

// 14.6: the number, for all numbers of workers and budgets up to the largest.
func TestEnoughNumber(t *testing.T) {
	for workers := 1; workers <= api.MaxWorkers; workers++ {
		for _, b := range []int{0, 1, 2, 9, 1000, api.MaxBudget - 1, api.MaxBudget} {
			n := levels(workers)
			want := (b+1)*(15*n+3) + 5*n + 2
			if got := kernel.Enough(adds(budget(b)), wide(workers, 0, 0)); got != want {
				t.Errorf("%d workers, budget %d: %d, not %d", workers, b, got, want)
			}
		}
	}
	if n := kernel.Enough(adds(budget(api.MaxBudget)), wide(64, 0, 63)); n != 442513 {
		t.Errorf("at most it is %d", n)
	}
}

// 14.6: with so many rounds, or more, a run is not Unfinished.
func TestEnough(t *testing.T) {
	m := maker{chance: 146}
	kinds := map[int]int{}
	for range 500 {
		p := m.plan(t)
		l := m.layout(p)
		n := kernel.Enough(p, l)
		want := ""
		for _, rounds := range []int{n, n + 1, 2 * n, math.MaxInt} {
			r, err := kernel.Fair(p, l, rounds)
			if r.Kind == api.Unfinished {
				t.Fatalf("%d rounds are not enough", rounds)
			}
			if want == "" {
				want = answer(r, err)
			}
			if got := answer(r, err); got != want {
				t.Fatalf("%d rounds: the answer is\n%s\nnot\n%s", rounds, got, want)
			}
			kinds[r.Kind]++
		}
	}
	for kind := api.Done; kind <= api.Resource; kind++ {
		if kinds[kind] == 0 {
			t.Errorf("no run was of kind %d", kind)
		}
	}
}

// slowest is a plan in which each window has one event, and its worker's step is all that is done.
func slowest(t *testing.T, budget int) api.Plan {
	t.Helper()
	p := scenario(t, "look 1 end 18446744073709551615 kind k type T { var n on k(x) { n = n + 1 send k(0) to 63 - me after 1 } } place p[64] : T start k(1) to p[0] at 0")
	p.Budget = budget
	return p
}

// 14.6: as many windows as there can be, for any number of workers.
func TestEnoughWindows(t *testing.T) {
	for workers := 1; workers <= api.MaxWorkers; workers++ {
		for _, b := range []int{0, 1, 40} {
			checkEnough(t, slowest(t, b), workers)
		}
	}
	for _, workers := range []int{1, 2, 32} {
		checkEnough(t, slowest(t, api.MaxBudget), workers)
	}
}

func checkEnough(t *testing.T, p api.Plan, workers int) {
	t.Helper()
	l, _ := kernel.Spread(p, workers, 2)
	r, err := kernel.Fair(p, l, kernel.Enough(p, l))
	if r.Kind != api.Cut || len(r.Trace) != p.Budget || err != nil {
		t.Errorf("%d workers, budget %d: kind %d, %d events, %v", workers, p.Budget, r.Kind, len(r.Trace), err)
	}
}
