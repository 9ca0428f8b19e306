package seqrun_test

import (
	"math/big"
	"slices"

	"horizon/api"
	"horizon/dice"
	"horizon/vm"
)

// The chapter's words a second time: no heap, nothing kept in order. All events that ever were stand in one list, in the order in which they came; which of them were executed is told by numbers into that list.

type slow struct {
	plan   api.Plan
	states []api.State
	all    []api.Event
	done   map[int]bool // by the place in all: executed
	old    []api.Event  // the trace of the point at which it was opened
	order  []int        // what was executed since, by its place in all
	failed bool
	fault  api.Errno
	at     api.Key
}

// goesFirst is the order of keys, by DOC.md.
func goesFirst(a, b api.Key) bool {
	if a.Time != b.Time {
		return a.Time < b.Time
	}
	if a.Src != b.Src {
		return a.Src < b.Src
	}
	return a.Seq < b.Seq
}

// slowValid asks for what is wrong, in the chapter's order.
func slowValid(p api.Plan) api.Errno {
	wrong := map[api.Errno]bool{
		api.ErrKinds:    p.Kinds < 0 || p.Kinds > 32,
		api.ErrPrograms: len(p.Programs) > 16,
		api.ErrParts:    len(p.Parts) > 64,
		api.ErrStarts:   len(p.Starts) > 256,
		api.ErrLook:     p.Look < 1,
		api.ErrBudget:   p.Budget < 0 || p.Budget > 4096,
		api.ErrFuel:     p.Fuel <= 0 || p.Fuel > 4096,
	}
	for _, g := range p.Programs {
		wrong[api.ErrPrograms] = wrong[api.ErrPrograms] || vm.Verify(g, p.Kinds) != api.OK
	}
	for _, part := range p.Parts {
		there := part.Program >= 0 && part.Program < len(p.Programs)
		wrong[api.ErrParts] = wrong[api.ErrParts] || !there || len(part.Words) != p.Programs[part.Program].Words
	}
	for _, start := range p.Starts {
		wrong[api.ErrStarts] = wrong[api.ErrStarts] || start.Dst < 0 || start.Dst >= len(p.Parts) || start.Kind < 0 || start.Kind >= p.Kinds
	}
	for _, code := range []api.Errno{api.ErrKinds, api.ErrPrograms, api.ErrParts, api.ErrStarts, api.ErrLook, api.ErrBudget, api.ErrFuel} {
		if wrong[code] {
			return code
		}
	}
	return api.OK
}

// slowFits tells whether Open takes a point of a plan that is valid.
func slowFits(p api.Plan, at api.Point) bool {
	if len(at.States) != len(p.Parts) || len(at.Trace) > p.Budget {
		return false
	}
	for i, v := range at.States {
		if len(v.Words) != p.Programs[p.Parts[i].Program].Words || v.Sent > 4611686018427387904 {
			return false
		}
	}
	for i, e := range at.Pending {
		isPart := func(n int) bool { return 0 <= n && n <= len(p.Parts)-1 }
		if i > 0 && !goesFirst(at.Pending[i-1].Key, e.Key) {
			return false
		}
		if !isPart(e.Dst) || !isPart(e.Key.Src) || e.Kind < 0 || e.Kind > p.Kinds-1 || !(e.Key.Seq < at.States[e.Key.Src].Sent) {
			return false
		}
	}
	return true
}

// slowFirst is the point at which a run begins, by DOC.md: each start's Seq is counted anew.
func slowFirst(p api.Plan) api.Point {
	var at api.Point
	for i, part := range p.Parts {
		v := api.State{Words: slices.Clone(part.Words), Dice: dice.Seed(p.Seed, i)}
		for _, start := range p.Starts {
			if start.Dst == i {
				v.Sent++
			}
		}
		at.States = append(at.States, v)
	}
	for i, start := range p.Starts {
		seq := uint64(0)
		for _, ahead := range p.Starts[:i] {
			if ahead.Dst == start.Dst {
				seq++
			}
		}
		at.Pending = append(at.Pending, api.Event{Key: api.Key{Time: start.Time, Src: start.Dst, Seq: seq}, Dst: start.Dst, Kind: start.Kind, Data: start.Data})
	}
	at.Pending = inOrder(at.Pending)
	return at
}

// inOrder puts each event in ahead of the first one that it goes ahead of.
func inOrder(l []api.Event) []api.Event {
	var out []api.Event
	for _, e := range l {
		at := 0
		for at < len(out) && goesFirst(out[at].Key, e.Key) {
			at++
		}
		out = slices.Insert(out, at, e)
	}
	return out
}

func newSlow(p api.Plan, at api.Point) *slow {
	at = clonedPoint(at)
	return &slow{plan: cloned(p), states: at.States, all: at.Pending, done: map[int]bool{}, old: at.Trace}
}

// next is the place of the pending event that goes first, if its time is below End; else -1.
func (s *slow) next() int {
	found := -1
	for i, e := range s.all {
		if s.done[i] || e.Key.Time >= s.plan.End {
			continue
		}
		if found < 0 || goesFirst(e.Key, s.all[found].Key) {
			found = i
		}
	}
	return found
}

func (s *slow) Step() (api.Event, api.Errno) {
	i := s.next()
	if s.failed || i < 0 || len(s.old)+len(s.order) >= s.plan.Budget {
		return api.Event{}, api.ErrOver
	}
	e := s.all[i]
	program := s.plan.Programs[s.plan.Parts[e.Dst].Program]
	x := vm.Run(program, api.Call{Event: e, State: s.states[e.Dst], Look: s.plan.Look, Parts: len(s.plan.Parts), Fuel: s.plan.Fuel})
	if x.Code != api.OK {
		s.failed, s.fault, s.at = true, x.Code, e.Key
		return api.Event{}, x.Code
	}
	s.states[e.Dst] = x.State
	s.done[i] = true
	s.order = append(s.order, i)
	s.all = append(s.all, x.Out...)
	return e, api.OK
}

func (s *slow) trace() []api.Event {
	l := slices.Clone(s.old)
	for _, i := range s.order {
		l = append(l, s.all[i])
	}
	return l
}

func (s *slow) Point() api.Point {
	var pending []api.Event
	for i, e := range s.all {
		if !s.done[i] {
			pending = append(pending, e)
		}
	}
	return clonedPoint(api.Point{States: s.states, Pending: inOrder(pending), Trace: s.trace()})
}

func (s *slow) Result() api.Result {
	at := s.Point()
	r := api.Result{Kind: api.Unfinished, Code: api.ErrUnfinished, States: at.States, Trace: at.Trace}
	if len(at.Trace) == s.plan.Budget {
		r.Kind, r.Code = api.Cut, api.OK
	}
	if s.next() < 0 {
		r.Kind, r.Code = api.Done, api.OK
	}
	if s.failed {
		r.Kind, r.Code, r.At = api.Fault, s.fault, s.at
	}
	return r
}

func slowRun(p api.Plan) api.Result {
	if code := slowValid(p); code != api.OK {
		return api.Result{Kind: api.Rejected, Code: code}
	}
	s := newSlow(p, slowFirst(p))
	for {
		if _, code := s.Step(); code != api.OK {
			return s.Result()
		}
	}
}

// slowWindows counts, for each window, through the whole trace; the bound is reckoned without a limit.
func slowWindows(p api.Plan) (l []api.Window) {
	trace := slowRun(p).Trace
	for covered := 0; covered < len(trace); {
		low := trace[covered].Key.Time
		bound := new(big.Int).Add(new(big.Int).SetUint64(low), new(big.Int).SetUint64(p.Look))
		if end := new(big.Int).SetUint64(p.End); end.Cmp(bound) < 0 {
			bound = end
		}
		w := api.Window{Number: len(l) + 1, Low: low, Bound: bound.Uint64()}
		for _, e := range trace {
			if e.Key.Time >= low && e.Key.Time < w.Bound {
				w.Events++
			}
		}
		covered += w.Events
		l = append(l, w)
	}
	return l
}
