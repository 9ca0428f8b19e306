package crew

import (
	"sync"
	"sync/atomic"

	"horizon/api"
	"horizon/seqrun"
)

// sweep lets the hands take seed after seed until none is left. Which hand has which seed is not to be seen: each result has a place of its own.
func sweep(p api.Plan, seeds []uint64, hands int) []api.Result {
	results := make([]api.Result, len(seeds))
	var taken atomic.Int64
	var wait sync.WaitGroup
	// More hands than seeds would find nothing to do.
	for range min(hands, len(seeds)) {
		wait.Add(1)
		go func() {
			defer wait.Done()
			for {
				next := int(taken.Add(1)) - 1
				if next >= len(seeds) {
					return
				}
				results[next] = seeded(p, seeds[next])
			}
		}()
	}
	wait.Wait()
	return results
}

// seeded is the result of a plan with another seed.
func seeded(p api.Plan, seed uint64) api.Result {
	p.Seed = seed
	return seqrun.Run(p)
}
