package warp

import (
	"slices"

	"horizon/api"
	"horizon/stamp"
	"horizon/vm"
)

func unfinished() api.Result {
	return api.Result{Kind: api.Unfinished, Code: api.ErrUnfinished}
}

// programsOfParts is each part's program, in memory of their own; parts of one program share it, for nobody writes into it.
func programsOfParts(p api.Plan) []api.Program {
	all := slices.Clone(p.Programs)
	for i, g := range all {
		all[i].Code, all[i].Entry = slices.Clone(g.Code), slices.Clone(g.Entry)
	}
	l := make([]api.Program, len(p.Parts))
	for i, part := range p.Parts {
		l[i] = all[part.Program]
	}
	return l
}

func (t *Team) knows(w int) bool { return w >= 0 && w < len(t.workers) }

// ownerOf is the worker to whose part an event happens.
func (t *Team) ownerOf(e api.Event) *self { return t.workers[t.owner[e.Dst]] }

// lookAt is what an event's handler would do now.
func (t *Team) lookAt(e api.Event) api.Effect {
	return vm.Run(t.programs[e.Dst], api.Call{Event: e, State: t.states[e.Dst], Look: t.look, Parts: len(t.programs), Fuel: t.fuel})
}

// takeInAll lets the workers take in their mail till there is none: what one of them undoes sends mail to others.
func (t *Team) takeInAll() {
	for t.hasMail() {
		for _, w := range t.workers {
			w.takeIn()
		}
	}
}

func (t *Team) hasMail() bool {
	for _, w := range t.workers {
		if len(w.mail) > 0 {
			return true
		}
	}
	return false
}

// next is the pending event with the least key of all; false, if nothing is pending.
func (t *Team) next() (api.Event, bool) {
	var next api.Event
	any := false
	for _, w := range t.workers {
		e, some := w.pending.least()
		if some && (!any || stamp.Compare(e.Key, next.Key) < 0) {
			next, any = e, true
		}
	}
	return next, any
}

// certain tells whether an executed event lies below the global virtual time: nothing can come ahead of it any more.
func (t *Team) certain(k api.Key) bool { return !t.found || stamp.Compare(k, t.low) < 0 }

// firstCertain is the worker with the first executed event of all, if that one is certain; else none. What a worker has executed rises by key.
func (t *Team) firstCertain() *self {
	var first *self
	for _, w := range t.workers {
		if len(w.done) == 0 || !t.certain(w.done[0].event.Key) {
			continue
		}
		if first == nil || stamp.Compare(w.done[0].event.Key, first.done[0].event.Key) < 0 {
			first = w
		}
	}
	return first
}

// commit lays what is certain behind the trace, as far as the budget reaches: how many events that were.
func (t *Team) commit() int {
	before := len(t.trace)
	for len(t.trace) < t.budget {
		w := t.firstCertain()
		if w == nil {
			break
		}
		t.trace = append(t.trace, w.settle())
	}
	return len(t.trace) - before
}

// isLeft tells whether there is something that a run without a bound would still commit.
func (t *Team) isLeft() bool { return t.firstCertain() != nil || t.found && t.low.Time < t.end }

// judged tells how the run has ended, or that it has not, behind a commit; next is the event with the global virtual time.
func (t *Team) judged(next api.Event) api.Result {
	switch {
	case !t.isLeft():
		return api.Result{Kind: api.Done}
	case len(t.trace) == t.budget:
		return api.Result{Kind: api.Cut}
	}
	// All that is certain is committed, so what is left is next, and its part's state is what it will be.
	if effect := t.lookAt(next); effect.Code != api.OK {
		return api.Result{Kind: api.Fault, Code: effect.Code, At: next.Key}
	}
	return unfinished()
}

// settled is the states behind the committed events: those ahead of the first ones that are executed and not committed.
func (t *Team) settled() []api.State {
	l := slices.Clone(t.states)
	for _, w := range t.workers {
		for _, d := range slices.Backward(w.done) {
			l[d.event.Dst] = d.ahead
		}
	}
	return l
}

// drop lets go of what is executed and not committed.
func (t *Team) drop() {
	t.states = t.settled()
	for _, w := range t.workers {
		w.done = nil
	}
}
