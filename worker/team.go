package worker

import (
	"slices"

	"horizon/api"
	"horizon/combine"
	"horizon/mailbox"
	"horizon/stamp"
)

// shared is what all workers of a team know, and what they tell one another.
type shared struct {
	programs []api.Program // of each part its own
	owner    []int         // of each part: the worker whose it is
	place    []int         // of each part: where it stands among its owner's parts
	look     uint64
	end      uint64
	budget   int
	fuel     int

	post   *mailbox.Post[api.Event]
	lows   *combine.Net[api.Vote]
	fails  *combine.Net[api.Vote]
	counts *combine.Net[api.Vote]
	gate   *combine.Barrier
	open   [][]api.Key // by the worker who has laid them open
}

// ownersFit tells whether each part has an owner that is there.
func ownersFit(p api.Plan, l api.Layout) bool {
	if len(l.Owner) != len(p.Parts) {
		return false
	}
	for _, w := range l.Owner {
		if w < 0 || w >= l.Workers {
			return false
		}
	}
	return true
}

// mostStarts is how many starts that worker gets who gets most of them; the plan is valid, and so are the owners.
func mostStarts(p api.Plan, l api.Layout) int {
	starts := make([]int, l.Workers)
	for _, start := range p.Starts {
		starts[l.Owner[start.Dst]]++
	}
	return slices.Max(starts)
}

// newShared is what the workers of a valid layout share at the start. Of numbers that are valid nothing below refuses any.
func newShared(p api.Plan, l api.Layout) *shared {
	s := &shared{
		programs: programsOfParts(p),
		owner:    slices.Clone(l.Owner),
		place:    placesOf(l),
		look:     p.Look,
		end:      p.End,
		budget:   p.Budget,
		fuel:     p.Fuel,
		open:     make([][]api.Key, l.Workers),
	}
	s.post, _ = mailbox.New(l.Workers, l.Box, byKey)
	s.lows, _ = combine.New(l.Workers, combine.Least)
	s.fails, _ = combine.New(l.Workers, combine.Least)
	s.counts, _ = combine.New(l.Workers, combine.Least)
	s.gate, _ = combine.NewBarrier(l.Workers)
	return s
}

func byKey(a, b api.Event) int { return stamp.Compare(a.Key, b.Key) }

// programsOfParts is each part's program, in memory of their own; parts of one program share it, for nobody writes into it.
func programsOfParts(p api.Plan) []api.Program {
	all := slices.Clone(p.Programs)
	for i, g := range all {
		all[i].Code, all[i].Entry = slices.Clone(g.Code), slices.Clone(g.Entry)
	}
	l := make([]api.Program, len(p.Parts))
	for i, part := range p.Parts {
		l[i] = all[part.Program]
	}
	return l
}

// placesOf numbers each worker's parts from 0 on.
func placesOf(l api.Layout) []int {
	next := make([]int, l.Workers)
	places := make([]int, len(l.Owner))
	for part, w := range l.Owner {
		places[part] = next[w]
		next[w]++
	}
	return places
}

// byPart puts what each worker tells of its own parts into the order of all parts.
func (s *shared) byPart(rows [][]api.State) []api.State {
	l := make([]api.State, len(s.owner))
	for part, w := range s.owner {
		l[part] = rows[w][s.place[part]]
	}
	return l
}

// gathered is all states and all traces: of a worker whose log counts with it, of every other one as it was when it committed last.
func (t *Team) gathered(logCounts func(w *worker) bool) ([]api.State, []api.Event) {
	rows := make([][]api.State, len(t.workers))
	var lists [][]api.Event
	for i, w := range t.workers {
		lists = append(lists, w.trace)
		if logCounts(w) {
			lists = append(lists, w.log)
			rows[i] = w.store.States()
		} else {
			rows[i] = w.store.Settled()
		}
	}
	return t.byPart(rows), stamp.Merge(lists...)
}
