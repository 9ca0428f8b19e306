package seqrun

import (
	"iter"
	"slices"

	"horizon/api"
	"horizon/stamp"
)

// begin is the run of a plan from its first point on.
func begin(p api.Plan) (*Sim, api.Errno) {
	if code := Valid(p); code != api.OK {
		return nil, code
	}
	return goOn(p, firstPoint(p)), api.OK
}

// goOn is a run from a point that fits its plan. Of the plan it keeps what the steps ask for: how the run began is the point's to tell.
func goOn(p api.Plan, at api.Point) *Sim {
	return &Sim{
		programs: programsOfParts(p),
		look:     p.Look,
		end:      p.End,
		budget:   p.Budget,
		fuel:     p.Fuel,
		states:   copiedStates(at.States),
		pending:  slices.Clone(at.Pending), // what rises by key is a heap already
		trace:    slices.Clone(at.Trace),
	}
}

// idle tells whether nothing is pending ahead of the end.
func (s *Sim) idle() bool { return len(s.pending) == 0 || s.pending.least().Key.Time >= s.end }

// spent tells whether the budget is used up.
func (s *Sim) spent() bool { return len(s.trace) >= s.budget }

// call is what an event's handler is run on.
func (s *Sim) call(e api.Event) api.Call {
	return api.Call{Event: e, State: s.states[e.Dst], Look: s.look, Parts: len(s.programs), Fuel: s.fuel}
}

// take makes what a handler did count: its event is the least that is pending.
func (s *Sim) take(effect api.Effect) {
	e := s.pending.pop()
	for _, sent := range effect.Out {
		s.pending.push(sent)
	}
	s.states[e.Dst] = effect.State
	s.trace = append(s.trace, e)
}

// events gives what the run executes from now on, with places from 0 on. Who stops early may ask anew, and the run goes on.
func (s *Sim) events() iter.Seq2[int, api.Event] {
	return func(yield func(int, api.Event) bool) { drive(s.Step, yield) }
}

// drive makes steps until one of them executes nothing, or who takes the events stops.
func drive(step func() (api.Event, api.Errno), yield func(int, api.Event) bool) {
	for place := 0; ; place++ {
		e, code := step()
		if code != api.OK || !yield(place, e) {
			return
		}
	}
}

// opened is the window that an event at the time low opens; no event is counted in it yet.
func opened(p api.Plan, number int, low uint64) api.Window {
	return api.Window{Number: number, Low: low, Bound: stamp.Bound(low, p.Look, p.End)}
}
