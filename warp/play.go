package warp

import (
	"iter"

	"horizon/api"
	"horizon/kernel"
)

// turns is all workers in their order and a Gather behind them, so many times.
func turns(workers, rounds int) iter.Seq[int] {
	return func(yield func(int) bool) {
		for range rounds {
			for pick := range workers + 1 {
				if !yield(pick) {
					return
				}
			}
		}
	}
}

// play lets a team do what is picked, till there are no more picks or the run is over.
func play(p api.Plan, l api.Layout, picks iter.Seq[int]) (api.Result, error) {
	t, code := New(p, l)
	if code != api.OK {
		return withError(api.Result{Kind: api.Rejected, Code: code})
	}
	for pick := range picks {
		if t.Over() {
			break
		}
		t.play(pick)
	}
	return withError(t.Result())
}

// play does what one pick says; a number that says nothing is refused by Step.
func (t *Team) play(pick int) {
	if pick == len(t.workers) {
		t.Gather()
		return
	}
	t.Step(pick)
}

func withError(r api.Result) (api.Result, error) { return r, kernel.Err(r) }
