package crew_test

import (
	"slices"

	"horizon/api"
	"horizon/seqrun"
	"horizon/stamp"
	"horizon/vm"
)

// DOC.md's section 'A run in windows' without any steps, as far as it tells of room. Up to the first lack a run in windows is the run in the order of keys: each window is looked at from that run's point between two windows.

// share is a worker's own events of a window, and what has come of them.
type share struct {
	plan   api.Plan
	layout api.Layout
	me     int
	states []api.State
	queue  []api.Event
	sent   map[int]int // to each other worker
	done   []api.Event
	lack   string
	failed bool
}

// owned is the events of a list that happen to a worker's parts.
func owned(l []api.Event, layout api.Layout, w int) []api.Event {
	return slices.DeleteFunc(slices.Clone(l), func(e api.Event) bool { return layout.Owner[e.Dst] != w })
}

// work is what the worker does up to a bound, but at most r events.
func (s *share) work(r int, bound uint64) {
	for s.lack == "" && !s.failed && len(s.done) < r && len(s.queue) > 0 && s.queue[0].Key.Time < bound {
		if len(s.done) == s.layout.Undo {
			s.lack = "undo"
			return
		}
		s.execute(s.queue[0])
	}
}

func (s *share) execute(e api.Event) {
	program := s.plan.Programs[s.plan.Parts[e.Dst].Program]
	x := vm.Run(program, api.Call{Event: e, State: s.states[e.Dst], Look: s.plan.Look, Parts: len(s.plan.Parts), Fuel: s.plan.Fuel})
	if x.Code != api.OK {
		s.failed = true
		return
	}
	s.queue = s.queue[1:]
	s.states[e.Dst] = x.State
	s.done = append(s.done, e)
	for _, sent := range x.Out {
		if s.lack == "" {
			s.send(sent)
		}
	}
}

func (s *share) send(e api.Event) {
	to := s.layout.Owner[e.Dst]
	switch {
	case to != s.me && s.sent[to] == s.layout.Box:
		s.lack = "box"
	case to != s.me:
		s.sent[to]++
	case len(s.queue) == s.layout.Arena:
		s.lack = "queue"
	default:
		s.queue = stamp.Order(append(s.queue, e))
	}
}

// lackOf is the first window in which a worker has no room, and where: "drain", "undo", "queue" or "box"; 0, if there is none.
func lackOf(p api.Plan, l api.Layout) (int, string) {
	first, _ := seqrun.First(p)
	sim, _ := seqrun.Open(p, first)
	for window := 1; ; window++ {
		at := sim.Point()
		for w := range l.Workers {
			// What has come for it and what it had must be in its queue together.
			if len(owned(at.Pending, l, w)) > l.Arena {
				return window - 1, "drain"
			}
		}
		r := p.Budget - len(at.Trace)
		if len(at.Pending) == 0 || at.Pending[0].Key.Time >= p.End || r == 0 {
			return 0, ""
		}
		n, why, more := oneWindow(p, l, at, r)
		if why != "" {
			return window, why
		}
		if !more {
			return 0, ""
		}
		for range n {
			sim.Step()
		}
	}
}

// oneWindow is how many events are executed in the window that begins at a point, where there was no room, and whether another window comes behind it.
func oneWindow(p api.Plan, l api.Layout, at api.Point, r int) (n int, why string, more bool) {
	bound := p.End
	if low := at.Pending[0].Key.Time; p.Look < p.End-low {
		bound = low + p.Look
	}
	more = true
	for w := range l.Workers {
		s := &share{plan: p, layout: l, me: w, states: slices.Clone(at.States), queue: owned(at.Pending, l, w), sent: map[int]int{}}
		s.work(r, bound)
		if s.lack != "" {
			why = s.lack
		}
		n += len(s.done)
		more = more && !s.failed
	}
	return n, why, more && n <= r
}

// behindWindows is how many events the first 0, 1, 2 .. windows of a run in the order of keys have.
func behindWindows(p api.Plan) []int {
	l := []int{0}
	for _, w := range seqrun.Windows(p) {
		l = append(l, l[len(l)-1]+w.Events)
	}
	return l
}

// promised is the result of a plan's run in windows whose first window with no room is j; 0: there is none.
func promised(p api.Plan, j int) api.Result {
	if j == 0 {
		return seqrun.Run(p)
	}
	r := seqrun.Prefix(p, behindWindows(p)[j-1])
	return api.Result{Kind: api.Resource, Code: api.ErrNoRoom, Window: j, States: r.States, Trace: r.Trace}
}

// begun is how many windows of a run have come as far as to be worked in: one that the last failure alone belongs to has no event.
func begun(p api.Plan, j int) int {
	if j > 0 {
		return j
	}
	l := seqrun.Windows(p)
	if r := seqrun.Run(p); r.Kind == api.Fault && (len(l) == 0 || r.At.Time >= l[len(l)-1].Bound) {
		return len(l) + 1
	}
	return len(l)
}

// stopped is the result that 15.2 promises behind so many windows.
func stopped(p api.Plan, j, windows int) api.Result {
	windows = max(windows, 0)
	if windows >= begun(p, j) {
		return promised(p, j)
	}
	r := seqrun.Prefix(p, behindWindows(p)[windows])
	return api.Result{Kind: api.Unfinished, Code: api.ErrUnfinished, States: r.States, Trace: r.Trace}
}
