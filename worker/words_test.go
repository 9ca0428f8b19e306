package worker_test

import (
	"maps"
	"slices"

	"horizon/api"
	"horizon/dice"
	"horizon/vm"
)

// The chapter's words a second time, over plain lists: no queue, no post, no net, no undo log. What an event's handler left of its part's state is kept under the event's key; a part's state is what its last event left that counts, so to take an event back is to strike it out of the log. Boxes are known by the number of their window; a round of a reduction by its own number.

type box struct{ window, from, to int }

type flag struct{ net, round, worker int }

const numNets = 4 // three reductions and the barrier

type slowWorker struct {
	api.View
	committed int
	place     [numNets]int // 0: outside; else the number of its next step by 10.3
	through   [numNets]int // rounds
	keys      []api.Key    // laid open
	end       api.Result
}

type slow struct {
	plan    api.Plan
	layout  api.Layout
	first   []api.State
	left    map[api.Key]api.State // by the event: its part's state behind it
	boxes   map[box][]api.Event
	votes   map[flag]api.Vote
	up      map[flag]bool
	down    map[flag]bool
	workers []*slowWorker
}

// goesFirst is the order of keys, by DOC.md.
func goesFirst(a, b api.Key) bool {
	if a.Time != b.Time {
		return a.Time < b.Time
	}
	if a.Src != b.Src {
		return a.Src < b.Src
	}
	return a.Seq < b.Seq
}

// inOrder puts each event in ahead of the first one that it goes ahead of.
func inOrder(l []api.Event) []api.Event {
	var out []api.Event
	for _, e := range l {
		at := 0
		for at < len(out) && goesFirst(out[at].Key, e.Key) {
			at++
		}
		out = slices.Insert(out, at, e)
	}
	return out
}

// slowStarts is the states and the events with which a run begins, by DOC.md.
func slowStarts(p api.Plan) ([]api.State, []api.Event) {
	var states []api.State
	for i, part := range p.Parts {
		states = append(states, api.State{Words: slices.Clone(part.Words), Dice: dice.Seed(p.Seed, i)})
	}
	var events []api.Event
	for _, start := range p.Starts {
		sender := &states[start.Dst]
		events = append(events, api.Event{Key: key(start.Time, start.Dst, sender.Sent), Dst: start.Dst, Kind: start.Kind, Data: start.Data})
		sender.Sent++
	}
	return states, events
}

func newSlow(p api.Plan, l api.Layout) *slow {
	s := &slow{plan: cloned(p), layout: clonedLayout(l), left: map[api.Key]api.State{}, boxes: map[box][]api.Event{}, votes: map[flag]api.Vote{}, up: map[flag]bool{}, down: map[flag]bool{}}
	states, events := slowStarts(p)
	s.first = states
	for range l.Workers {
		s.workers = append(s.workers, &slowWorker{View: api.View{Phase: api.PhDrain, Window: 1}})
	}
	for _, e := range events {
		w := s.workers[l.Owner[e.Dst]]
		w.Pending = inOrder(append(w.Pending, e))
	}
	return s
}

// state is a part's, behind the last of some events that happened to it.
func (s *slow) state(part int, events ...[]api.Event) api.State {
	v := s.first[part]
	for _, e := range slices.Concat(events...) {
		if e.Dst == part {
			v = s.left[e.Key]
		}
	}
	return api.State{Words: slices.Clone(v.Words), Dice: v.Dice, Sent: v.Sent}
}

func (s *slow) Step(w int) (int, api.Errno) {
	if w < 0 || w >= len(s.workers) || s.workers[w].Phase == api.PhOver {
		return 0, api.ErrPick
	}
	me := s.workers[w]
	was := me.Phase
	switch was {
	case api.PhDrain:
		s.drain(w)
	case api.PhLow:
		s.low(w)
	case api.PhWork:
		s.work(w)
	case api.PhFail:
		s.fail(w)
	case api.PhCount:
		s.count(w)
	case api.PhShow:
		for _, e := range s.counted(w) {
			me.keys = append(me.keys, e.Key)
		}
		me.Phase = api.PhMeet
	case api.PhMeet:
		if s.agree(3, w, api.Vote{}) {
			me.Phase = api.PhChoose
		}
	case api.PhChoose:
		s.choose(w)
	}
	return was, api.OK
}

// agree is a step in a net: w enters, if it is outside.
func (s *slow) agree(net, w int, v api.Vote) bool {
	me := s.workers[w]
	round := me.through[net] + 1
	at := func(worker int) flag { return flag{net, round, worker} }
	if me.place[net] == 0 {
		me.place[net] = 1
		s.votes[at(w)] = v
	}
	// What w has no use for takes no step.
	if me.place[net] == 1 && 2*w+1 >= len(s.workers) {
		me.place[net] = 2
	}
	if me.place[net] == 2 && 2*w+2 >= len(s.workers) {
		me.place[net] = 3
	}
	if me.place[net] == 3 && w == 0 {
		me.place[net] = 5
	}
	switch me.place[net] {
	case 1, 2:
		if s.up[at(2*w+me.place[net])] {
			me.place[net]++
		}
	case 3:
		s.up[at(w)] = true
		me.place[net] = 4
	case 4:
		if s.down[at((w-1)/2)] {
			me.place[net] = 5
		}
	case 5:
		s.down[at(w)] = true
		me.place[net] = 0
		me.through[net]++
		return true
	}
	return false
}

// agreed is what the votes of the last round say of which w is through.
func (s *slow) agreed(net, w int) (v api.Vote) {
	for other := range s.workers {
		x := s.votes[flag{net, s.workers[w].through[net], other}]
		if x.Any && (!v.Any || x.Low < v.Low) {
			v.Any, v.Low = true, x.Low
		}
		if x.Fault && (!v.Fault || goesFirst(x.At, v.At)) {
			v.Fault, v.At, v.Code = true, x.At, x.Code
		}
		v.Bad = v.Bad || x.Bad
		v.Count += x.Count
	}
	return v
}

func (s *slow) drain(w int) {
	me := s.workers[w]
	var mail []api.Event
	for from := range s.workers {
		mail = append(mail, s.boxes[box{me.Window - 1, from, w}]...)
	}
	for _, e := range inOrder(mail) {
		if len(me.Pending) == s.layout.Arena {
			me.Code, me.At = api.ErrNoRoom, e.Key
			break
		}
		me.Pending = inOrder(append(me.Pending, e))
	}
	me.Phase = api.PhLow
}

func (s *slow) low(w int) {
	me := s.workers[w]
	mine := api.Vote{Bad: me.Code == api.ErrNoRoom}
	if len(me.Pending) > 0 {
		mine.Any, mine.Low = true, me.Pending[0].Key.Time
	}
	if !s.agree(0, w, mine) {
		return
	}
	v := s.agreed(0, w)
	if v.Bad {
		me.Log = nil
		me.finish(api.Result{Kind: api.Resource, Code: api.ErrNoRoom, Window: me.Window - 1})
		return
	}
	me.Trace = append(me.Trace, me.Log...)
	me.Log = nil
	me.committed = me.Window - 1
	if me.Window > 1 {
		me.Total += s.agreed(2, w).Count
	}
	if !v.Any || v.Low >= s.plan.End {
		me.finish(api.Result{Kind: api.Done})
	} else if s.plan.Budget == me.Total {
		me.finish(api.Result{Kind: api.Cut})
	} else {
		me.Bound = slowBound(v.Low, s.plan)
		me.Phase = api.PhWork
	}
}

// slowBound is the bound of the window that begins at low, by DOC.md; low is below End.
func slowBound(low uint64, p api.Plan) uint64 {
	if p.End-low < p.Look {
		return p.End
	}
	return low + p.Look
}

func (w *slowWorker) finish(end api.Result) {
	w.end = end
	w.Phase = api.PhOver
}

func (w *slowWorker) stop(code api.Errno, at api.Key) {
	w.Code, w.At, w.Phase = code, at, api.PhFail
}

func (s *slow) work(w int) {
	me := s.workers[w]
	if len(me.Log) == s.plan.Budget-me.Total || len(me.Pending) == 0 || me.Pending[0].Key.Time >= me.Bound {
		me.Phase = api.PhFail
		return
	}
	e := me.Pending[0]
	if len(me.Log) == s.layout.Undo {
		me.stop(api.ErrNoRoom, e.Key)
		return
	}
	call := api.Call{Event: e, State: s.state(e.Dst, me.Trace, me.Log), Look: s.plan.Look, Parts: len(s.plan.Parts), Fuel: s.plan.Fuel}
	x := vm.Run(s.plan.Programs[s.plan.Parts[e.Dst].Program], call)
	if x.Code != api.OK {
		me.stop(x.Code, e.Key)
		return
	}
	me.Pending = me.Pending[1:]
	me.Log = append(me.Log, e)
	s.left[e.Key] = x.State
	for _, sent := range x.Out {
		if !s.lay(w, sent) {
			me.stop(api.ErrNoRoom, e.Key)
			return
		}
	}
}

// lay puts an event where it goes; false, if there is no room.
func (s *slow) lay(w int, e api.Event) bool {
	me, to := s.workers[w], s.layout.Owner[e.Dst]
	if to == w {
		if len(me.Pending) == s.layout.Arena {
			return false
		}
		me.Pending = inOrder(append(me.Pending, e))
		return true
	}
	b := box{me.Window, w, to}
	if len(s.boxes[b]) == s.layout.Box {
		return false
	}
	s.boxes[b] = append(s.boxes[b], e)
	return true
}

func (s *slow) fail(w int) {
	me := s.workers[w]
	mine := api.Vote{Bad: me.Code == api.ErrNoRoom}
	if me.Code >= api.FaultFuel {
		mine.Fault, mine.At, mine.Code = true, me.At, me.Code
	}
	if !s.agree(1, w, mine) {
		return
	}
	if s.agreed(1, w).Bad {
		me.Log = nil
		me.finish(api.Result{Kind: api.Resource, Code: api.ErrNoRoom, Window: me.Window})
		return
	}
	me.Phase = api.PhCount
}

// counted is the events of w's log that count.
func (s *slow) counted(w int) (l []api.Event) {
	failure := s.agreed(1, w)
	for _, e := range s.workers[w].Log {
		if !failure.Fault || goesFirst(e.Key, failure.At) {
			l = append(l, e)
		}
	}
	return l
}

func (s *slow) count(w int) {
	me := s.workers[w]
	if !s.agree(2, w, api.Vote{Count: len(s.counted(w))}) {
		return
	}
	c, failure := s.agreed(2, w).Count, s.agreed(1, w)
	r := s.plan.Budget - me.Total
	if c > r || c == r && failure.Fault {
		me.Phase = api.PhShow
	} else if failure.Fault {
		me.Log = s.counted(w)
		me.finish(api.Result{Kind: api.Fault, Code: failure.Code, At: failure.At})
	} else {
		me.Window++
		me.Phase = api.PhDrain
	}
}

// choose keeps those of w's events ahead of which there are fewer than r keys.
func (s *slow) choose(w int) {
	me := s.workers[w]
	var kept []api.Event
	for _, e := range s.counted(w) {
		ahead := 0
		for _, other := range s.workers {
			for _, k := range other.keys {
				if goesFirst(k, e.Key) {
					ahead++
				}
			}
		}
		if ahead < s.plan.Budget-me.Total {
			kept = append(kept, e)
		}
	}
	me.Log = kept
	me.finish(api.Result{Kind: api.Cut})
}

func (s *slow) View(w int) (api.View, api.Errno) {
	if w < 0 || w >= len(s.workers) {
		return api.View{}, api.ErrPick
	}
	return s.workers[w].View, api.OK
}

func (s *slow) Over() bool {
	for _, w := range s.workers {
		if w.Phase != api.PhOver {
			return false
		}
	}
	return true
}

func (s *slow) States() (l []api.State) {
	for part, w := range s.layout.Owner {
		l = append(l, s.state(part, s.workers[w].Trace, s.workers[w].Log))
	}
	return l
}

func (s *slow) Result() api.Result {
	r := api.Result{Kind: api.Unfinished, Code: api.ErrUnfinished}
	over, c := s.Over(), 0
	for _, w := range s.workers {
		c = max(c, w.committed)
	}
	if over {
		r = s.workers[0].end
	}
	var trace []api.Event
	for _, w := range s.workers {
		trace = append(trace, w.Trace...)
		if over || w.committed < c {
			trace = append(trace, w.Log...)
		}
	}
	r.Trace = inOrder(trace)
	for part := range s.first {
		r.States = append(r.States, s.state(part, r.Trace))
	}
	return r
}

// clone is a slow team that goes on by itself.
func (s *slow) clone() *slow {
	c := *s
	c.left, c.boxes, c.votes, c.up, c.down = maps.Clone(s.left), map[box][]api.Event{}, maps.Clone(s.votes), maps.Clone(s.up), maps.Clone(s.down)
	for b, l := range s.boxes {
		c.boxes[b] = slices.Clone(l)
	}
	c.workers = nil
	for _, w := range s.workers {
		x := *w
		x.Pending, x.Log, x.Trace, x.keys = slices.Clone(w.Pending), slices.Clone(w.Log), slices.Clone(w.Trace), slices.Clone(w.keys)
		c.workers = append(c.workers, &x)
	}
	return &c
}
