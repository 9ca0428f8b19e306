package kernel

import (
	"horizon/api"
	"horizon/worker"
)

// picker answers the next pick; false, if there is none left.
type picker func() (int, bool)

// listed picks what stands in a list, from its first place on.
func listed(picks []int) picker {
	next := 0
	return func() (int, bool) {
		if next == len(picks) {
			return 0, false
		}
		next++
		return picks[next-1], true
	}
}

// turns picks all workers in their order, so many times. Rounds are counted down: the number of all picks may be beyond an int.
func turns(workers, rounds int) picker {
	next := 0
	return func() (int, bool) {
		if next == workers {
			next = 0
			rounds--
		}
		if rounds < 1 {
			return 0, false
		}
		next++
		return next - 1, true
	}
}

// play steps a team as it is picked, till there are no more picks, or all workers have finished, or who sees has seen enough.
func play(p api.Plan, l api.Layout, next picker, see func(pick int, v api.View) bool) (api.Result, error) {
	team, code := worker.New(p, l)
	if code != api.OK {
		return told(api.Result{Kind: api.Rejected, Code: code})
	}
steps:
	for place := 0; !team.Over(); place++ {
		w, more := next()
		if !more {
			break
		}
		switch _, code := team.Step(w); {
		case code != api.OK:
			// Nobody was stepped: there is nothing to see.
		case see != nil && !see(place, seen(team, w)):
			break steps
		}
	}
	return told(team.Result())
}

// seen is what can be seen of a worker that was stepped: it is there, and is not refused.
func seen(team *worker.Team, w int) api.View {
	v, _ := team.View(w)
	return v
}
