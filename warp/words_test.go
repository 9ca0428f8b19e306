package warp_test

import (
	"slices"

	"horizon/api"
	"horizon/dice"
	"horizon/vm"
)

// The chapter's words a second time, over plain lists. Neither a state nor what an event has sent is kept: both are found, each time they are asked for, by running a part's events anew, from the start on. To undo an event is to strike it out of Done.

type slow struct {
	plan    api.Plan
	layout  api.Layout
	first   []api.State
	workers []*api.Warp
	trace   []api.Event
	low     []api.Key // the global virtual time, if there is one
	end     api.Result
	cost    int // how many handlers were run
}

// goesFirst is the order of keys, by DOC.md.
func goesFirst(a, b api.Key) bool {
	if a.Time != b.Time {
		return a.Time < b.Time
	}
	if a.Src != b.Src {
		return a.Src < b.Src
	}
	return a.Seq < b.Seq
}

// inOrder puts each event in ahead of the first one that it goes ahead of.
func inOrder(l []api.Event) []api.Event {
	var out []api.Event
	for _, e := range l {
		at := 0
		for at < len(out) && goesFirst(out[at].Key, e.Key) {
			at++
		}
		out = slices.Insert(out, at, e)
	}
	return out
}

// slowStarts is the states and the events with which a run begins, by DOC.md.
func slowStarts(p api.Plan) ([]api.State, []api.Event) {
	var states []api.State
	for i, part := range p.Parts {
		states = append(states, api.State{Words: slices.Clone(part.Words), Dice: dice.Seed(p.Seed, i)})
	}
	var events []api.Event
	for _, start := range p.Starts {
		sender := &states[start.Dst]
		events = append(events, api.Event{Key: key(start.Time, start.Dst, sender.Sent), Dst: start.Dst, Kind: start.Kind, Data: start.Data})
		sender.Sent++
	}
	return states, events
}

func newSlow(p api.Plan, l api.Layout) *slow {
	s := &slow{plan: cloned(p), layout: l}
	s.layout.Owner = slices.Clone(l.Owner)
	for range l.Workers {
		s.workers = append(s.workers, &api.Warp{})
	}
	var events []api.Event
	s.first, events = slowStarts(s.plan)
	for _, e := range events {
		s.put(e)
	}
	return s
}

func (s *slow) owner(e api.Event) *api.Warp { return s.workers[s.layout.Owner[e.Dst]] }

// put makes an event pending.
func (s *slow) put(e api.Event) {
	w := s.owner(e)
	w.Pending = inOrder(append(w.Pending, e))
}

// strike takes the event with a key out of a list: what is left, and whether it was there.
func strike(l []api.Event, k api.Key) ([]api.Event, bool) {
	left := slices.DeleteFunc(slices.Clone(l), func(e api.Event) bool { return e.Key == k })
	return left, len(left) < len(l)
}

// run is what a handler does with an event on a state.
func (s *slow) run(e api.Event, v api.State) api.Effect {
	s.cost++
	call := api.Call{Event: e, State: v, Look: s.plan.Look, Parts: len(s.plan.Parts), Fuel: s.plan.Fuel}
	return vm.Run(s.plan.Programs[s.plan.Parts[e.Dst].Program], call)
}

// state is a part's, behind those of some events that happened to it.
func (s *slow) state(part int, lists ...[]api.Event) api.State {
	v := s.first[part]
	for _, e := range slices.Concat(lists...) {
		if e.Dst == part {
			v = s.run(e, v).State
		}
	}
	return api.State{Words: slices.Clone(v.Words), Dice: v.Dice, Sent: v.Sent}
}

// effect is what the handler of an event does behind all that its part's worker has executed.
func (s *slow) effect(e api.Event) api.Effect {
	return s.run(e, s.state(e.Dst, s.trace, s.owner(e).Done))
}

// undo undoes the last event of a worker's Done.
func (s *slow) undo(w *api.Warp) {
	e := w.Done[len(w.Done)-1]
	w.Done = w.Done[:len(w.Done)-1]
	s.put(e)
	w.Back++
	for _, sent := range s.effect(e).Out {
		if to := s.owner(sent); to == w {
			w.Pending, _ = strike(w.Pending, sent.Key)
		} else {
			to.Mail = append(to.Mail, api.Letter{Event: sent, Anti: true})
			w.Anti++
		}
	}
}

// take takes in a letter.
func (s *slow) take(w *api.Warp, l api.Letter) {
	k := l.Event.Key
	if !l.Anti {
		for len(w.Done) > 0 && goesFirst(k, w.Done[len(w.Done)-1].Key) {
			s.undo(w)
		}
		s.put(l.Event)
		return
	}
	left, was := strike(w.Pending, k)
	for !was {
		s.undo(w)
		left, was = strike(w.Pending, k)
	}
	w.Pending = left
}

func (s *slow) takeMail(w *api.Warp) {
	for len(w.Mail) > 0 {
		l := w.Mail[0]
		w.Mail = w.Mail[1:]
		s.take(w, l)
	}
}

func (s *slow) Over() bool { return s.end.Kind != 0 }

func (s *slow) Step(number int) (int, api.Errno) {
	if s.Over() {
		return 0, api.ErrOver
	}
	if number < 0 || number >= s.layout.Workers {
		return 0, api.ErrPick
	}
	w := s.workers[number]
	s.takeMail(w)
	if len(w.Pending) == 0 || w.Pending[0].Key.Time >= s.plan.End {
		return 1, api.OK
	}
	if len(w.Done) >= s.layout.Undo {
		return 4, api.OK
	}
	e := w.Pending[0]
	x := s.effect(e)
	if x.Code != api.OK {
		return 3, api.OK
	}
	w.Pending = w.Pending[1:]
	w.Done = append(w.Done[:len(w.Done):len(w.Done)], e)
	for _, sent := range x.Out {
		if to := s.owner(sent); to == w {
			s.put(sent)
		} else {
			to.Mail = append(to.Mail, api.Letter{Event: sent})
		}
	}
	return 2, api.OK
}

// below tells whether an event lies below the global virtual time.
func (s *slow) below(e api.Event) bool { return len(s.low) == 0 || goesFirst(e.Key, s.low[0]) }

func (s *slow) Gather() (int, api.Errno) {
	if s.Over() {
		return 0, api.ErrOver
	}
	for slices.ContainsFunc(s.workers, func(w *api.Warp) bool { return len(w.Mail) > 0 }) {
		for _, w := range s.workers {
			s.takeMail(w)
		}
	}
	var waits, ran []api.Event
	for _, w := range s.workers {
		waits, ran = append(waits, w.Pending...), append(ran, w.Done...)
	}
	waits, ran = inOrder(waits), inOrder(ran)
	s.low = nil
	if len(waits) > 0 {
		s.low = []api.Key{waits[0].Key}
	}
	n, left := 0, len(s.low) > 0 && s.low[0].Time < s.plan.End
	for _, e := range ran {
		switch {
		case !s.below(e):
		case len(s.trace) == s.plan.Budget:
			left = true
		default:
			w := s.owner(e)
			w.Done, _ = strike(w.Done, e.Key)
			s.trace = append(s.trace, e)
			n++
		}
	}
	s.judge(left, waits)
	return n, api.OK
}

// judge finds how the run has ended, if it has.
func (s *slow) judge(left bool, waits []api.Event) {
	if !left {
		s.end = api.Result{Kind: api.Done}
	} else if len(s.trace) == s.plan.Budget {
		s.end = api.Result{Kind: api.Cut}
	} else if x := s.effect(waits[0]); x.Code != api.OK {
		s.end = api.Result{Kind: api.Fault, Code: x.Code, At: waits[0].Key}
	}
	if s.Over() {
		for _, w := range s.workers {
			w.Done = nil
		}
	}
}

func (s *slow) Low() (api.Key, bool) {
	if len(s.low) == 0 {
		return api.Key{}, false
	}
	return s.low[0], true
}

func (s *slow) View(w int) (api.Warp, api.Errno) {
	if w < 0 || w >= s.layout.Workers {
		return api.Warp{}, api.ErrPick
	}
	return *s.workers[w], api.OK
}

func (s *slow) Result() api.Result {
	r := s.end
	if !s.Over() {
		r = api.Result{Kind: api.Unfinished, Code: api.ErrUnfinished}
	}
	for part := range s.first {
		r.States = append(r.States, s.state(part, s.trace))
	}
	r.Trace = s.trace
	return r
}

// play does what one pick of 18.7 says.
func (s *slow) play(pick int) {
	if pick == s.layout.Workers {
		s.Gather()
	} else {
		s.Step(pick)
	}
}

// sent is all that executed events have sent, and the starts, by the words of 18.10: the events of each part are run anew.
func (s *slow) sent() []api.Event {
	_, all := slowStarts(s.plan)
	for part, v := range s.first {
		for _, e := range slices.Concat(s.trace, s.workers[s.layout.Owner[part]].Done) {
			if e.Dst == part {
				x := s.run(e, v)
				v = x.State
				all = append(all, x.Out...)
			}
		}
	}
	return all
}

// cloned shares no memory with what is handed in.
func cloned(p api.Plan) api.Plan {
	programs, parts := []api.Program{}, []api.Part{}
	for _, g := range p.Programs {
		programs = append(programs, api.Program{Words: g.Words, Locals: g.Locals, Code: slices.Clone(g.Code), Entry: slices.Clone(g.Entry)})
	}
	for _, part := range p.Parts {
		parts = append(parts, api.Part{Program: part.Program, Words: slices.Clone(part.Words)})
	}
	p.Programs, p.Parts, p.Starts = programs, parts, slices.Clone(p.Starts)
	return p
}
