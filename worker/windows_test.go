package worker_test

import (
	"slices"

	"horizon/api"
	"horizon/seqrun"
	"horizon/vm"
)

// DOC.md's section 'A run in windows', read without any steps: what a run must come to, whoever was stepped when.

type windows struct {
	plan    api.Plan
	layout  api.Layout
	states  []api.State // as of now
	first   []api.State
	left    map[api.Key]api.State
	pending [][]api.Event // of each worker
	mail    [][]api.Event // to each worker, of the last window
	trace   []api.Event   // committed
	last    []api.Event   // executed in the last window
}

// worked is what a worker did in a window.
type worked struct {
	noRoom bool
	fault  api.Errno
	at     api.Key
	done   []api.Event
}

// inWindows is the result of a plan's run in windows, and in which step it found no room: "drain", "undo", "queue" or "box".
func inWindows(p api.Plan, l api.Layout) (api.Result, string) {
	states, events := slowStarts(p)
	x := &windows{plan: p, layout: l, states: slices.Clone(states), first: states, left: map[api.Key]api.State{}, pending: make([][]api.Event, l.Workers), mail: make([][]api.Event, l.Workers)}
	for _, e := range events {
		w := l.Owner[e.Dst]
		x.pending[w] = inOrder(append(x.pending[w], e))
	}
	for window := 1; ; window++ {
		if r, why := x.window(window); r.Kind != 0 {
			return r, why
		}
	}
}

// result has those of the executed events that count.
func (x *windows) result(r api.Result, counts ...api.Event) api.Result {
	r.Trace = inOrder(slices.Concat(x.trace, counts))
	r.States = slices.Clone(x.first)
	for _, e := range r.Trace {
		r.States[e.Dst] = x.left[e.Key]
	}
	return r
}

func (x *windows) window(number int) (api.Result, string) {
	for w, mail := range x.mail {
		for _, e := range inOrder(mail) {
			if len(x.pending[w]) == x.layout.Arena {
				return x.result(api.Result{Kind: api.Resource, Code: api.ErrNoRoom, Window: number - 1}), "drain"
			}
			x.pending[w] = inOrder(append(x.pending[w], e))
		}
		x.mail[w] = nil
	}
	x.trace = append(x.trace, x.last...)
	all := inOrder(slices.Concat(x.pending...))
	r := x.plan.Budget - len(x.trace)
	if len(all) == 0 || all[0].Key.Time >= x.plan.End {
		return x.result(api.Result{Kind: api.Done}), ""
	}
	if r == 0 {
		return x.result(api.Result{Kind: api.Cut}), ""
	}
	bound := slowBound(all[0].Key.Time, x.plan)
	var done []api.Event
	var failure worked
	why := ""
	for w := range x.layout.Workers {
		k, lack := x.work(w, r, bound)
		if lack != "" {
			why = lack
		}
		if k.fault != api.OK && (failure.fault == api.OK || goesFirst(k.at, failure.at)) {
			failure = k
		}
		done = append(done, k.done...)
	}
	if why != "" {
		return x.result(api.Result{Kind: api.Resource, Code: api.ErrNoRoom, Window: number}), why
	}
	return x.count(r, inOrder(done), failure), ""
}

// work is a worker's part of a window.
func (x *windows) work(w, r int, bound uint64) (k worked, lack string) {
	for len(k.done) < r && len(x.pending[w]) > 0 && x.pending[w][0].Key.Time < bound {
		e := x.pending[w][0]
		if len(k.done) == x.layout.Undo {
			return k, "undo"
		}
		effect := vm.Run(x.plan.Programs[x.plan.Parts[e.Dst].Program], api.Call{Event: e, State: x.states[e.Dst], Look: x.plan.Look, Parts: len(x.plan.Parts), Fuel: x.plan.Fuel})
		if effect.Code != api.OK {
			k.fault, k.at = effect.Code, e.Key
			return k, ""
		}
		x.pending[w] = x.pending[w][1:]
		x.states[e.Dst], x.left[e.Key] = effect.State, effect.State
		k.done = append(k.done, e)
		for _, sent := range effect.Out {
			if lack := x.send(w, sent); lack != "" {
				return k, lack
			}
		}
	}
	return k, ""
}

func (x *windows) send(w int, e api.Event) string {
	to := x.layout.Owner[e.Dst]
	if to == w {
		if len(x.pending[w]) == x.layout.Arena {
			return "queue"
		}
		x.pending[w] = inOrder(append(x.pending[w], e))
		return ""
	}
	lie := 0
	for _, other := range x.mail[to] {
		// What lies there and was sent by one of w's own parts lies in the box from w.
		if x.layout.Owner[other.Key.Src] == w {
			lie++
		}
	}
	if lie == x.layout.Box {
		return "box"
	}
	x.mail[to] = append(x.mail[to], e)
	return ""
}

func (x *windows) count(r int, done []api.Event, failure worked) api.Result {
	c := 0
	for _, e := range done {
		if failure.fault == api.OK || goesFirst(e.Key, failure.at) {
			c++
		}
	}
	if c > r || c == r && failure.fault != api.OK {
		return x.result(api.Result{Kind: api.Cut}, done[:r]...)
	}
	if failure.fault != api.OK {
		return x.result(api.Result{Kind: api.Fault, Code: failure.fault, At: failure.at}, done[:c]...)
	}
	x.last = done
	return api.Result{}
}

// promised is the result that 13.7 promises, if it is Resource in window j, or if it is not (j is 0): by the run in the order of keys.
func promised(p api.Plan, j int) api.Result {
	if j == 0 {
		return seqrun.Run(p)
	}
	n := 0
	for _, w := range seqrun.Windows(p)[:j-1] {
		n += w.Events
	}
	r := seqrun.Prefix(p, n)
	return api.Result{Kind: api.Resource, Code: api.ErrNoRoom, Window: j, States: r.States, Trace: r.Trace}
}
