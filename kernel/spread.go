package kernel

import (
	"cmp"
	"slices"

	"horizon/api"
	"horizon/seqrun"
)

// The ways to spread parts over workers.
const (
	inTurn    = 1
	inBlocks  = 2
	byWeight  = 3
	byProgram = 4
)

// Spread is a layout of a plan for so many workers, by a way.
func Spread(p api.Plan, workers, way int) (api.Layout, api.Errno) {
	if code := seqrun.Valid(p); code != api.OK {
		return api.Layout{}, code
	}
	if workers < 1 || workers > api.MaxWorkers {
		return api.Layout{}, api.ErrWorkers
	}
	if way < inTurn || way > byProgram {
		return api.Layout{}, api.ErrArg
	}
	return api.Layout{
		Workers: workers,
		Owner:   owners(p, workers, way),
		Arena:   api.MaxArena,
		Box:     api.MaxBox,
		Undo:    api.MaxUndo,
	}, api.OK
}

// owners is a worker for each part of a valid plan.
func owners(p api.Plan, workers, way int) []int {
	if way == byWeight {
		return dealt(weights(p), workers)
	}
	l := make([]int, len(p.Parts))
	for i, part := range p.Parts {
		switch way {
		case inTurn:
			l[i] = i % workers
		case inBlocks:
			l[i] = i * workers / len(p.Parts)
		case byProgram:
			l[i] = part.Program % workers
		}
	}
	return l
}

// weights is, for each part, one and the number of the starts to it.
func weights(p api.Plan) []int {
	l := slices.Repeat([]int{1}, len(p.Parts))
	for _, start := range p.Starts {
		l[start.Dst]++
	}
	return l
}

// dealt gives the parts, the heaviest first, each to the worker who has least by then.
func dealt(weights []int, workers int) []int {
	owner := make([]int, len(weights))
	load := make([]int, workers)
	for _, part := range heaviestFirst(weights) {
		w := slices.Index(load, slices.Min(load))
		owner[part] = w
		load[w] += weights[part]
	}
	return owner
}

// heaviestFirst is the numbers of all parts; of equal weights the smaller number goes first.
func heaviestFirst(weights []int) []int {
	parts := make([]int, len(weights))
	for i := range parts {
		parts[i] = i
	}
	slices.SortStableFunc(parts, func(a, b int) int { return cmp.Compare(weights[b], weights[a]) })
	return parts
}
