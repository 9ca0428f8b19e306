package worker

import (
	"slices"

	"horizon/api"
	"horizon/combine"
	"horizon/stamp"
	"horizon/vm"
)

// phases is what a worker does in a step, by the number of its phase.
func phases() [api.NumPhases]func(w *worker) {
	return [api.NumPhases]func(w *worker){
		api.PhDrain:  (*worker).drain,
		api.PhLow:    (*worker).agreeOnLow,
		api.PhWork:   (*worker).work,
		api.PhFail:   (*worker).agreeOnFailure,
		api.PhCount:  (*worker).agreeOnCount,
		api.PhShow:   (*worker).show,
		api.PhMeet:   (*worker).meet,
		api.PhChoose: (*worker).choose,
	}
}

// drain takes in what was sent to the worker in the window ahead.
func (w *worker) drain() {
	// Who is here knows that all have left PhWork, and gone on to the next phase of the post: nothing is refused.
	mail, _ := w.post.Drain(w.me)
	for _, e := range mail {
		if w.queue.Insert(e) != api.OK {
			w.fail(api.ErrNoRoom, e.Key)
			break
		}
	}
	w.phase = api.PhLow
}

// agree is a step in a reduction, which the worker enters with a vote, if it is not inside: what all have agreed on, if it is through.
func (w *worker) agree(net *combine.Net[api.Vote], vote func() api.Vote) (api.Vote, bool) {
	if !net.Inside(w.me) {
		net.Enter(w.me, vote())
	}
	if through, _ := net.Step(w.me); !through {
		return api.Vote{}, false
	}
	v, _ := net.Value(w.me)
	return v, true
}

func (w *worker) agreeOnLow() {
	v, through := w.agree(w.lows, w.lowVote)
	switch {
	case !through:
	case v.Bad:
		w.takeBack(0)
		w.finish(api.Result{Kind: api.Resource, Code: api.ErrNoRoom, Window: w.window - 1})
	default:
		w.commit()
		w.begin(v)
	}
}

func (w *worker) lowVote() api.Vote {
	e, code := w.queue.Min()
	return api.Vote{Low: e.Key.Time, Any: code == api.OK, Bad: w.lacksRoom()}
}

// begin begins a window, if the run is not over.
func (w *worker) begin(v api.Vote) {
	switch {
	case !v.Any || v.Low >= w.end:
		w.finish(api.Result{Kind: api.Done})
	case w.left() == 0:
		w.finish(api.Result{Kind: api.Cut})
	default:
		w.bound = stamp.Bound(v.Low, w.look, w.end)
		w.phase = api.PhWork
	}
}

// work executes the worker's first event, if it may.
func (w *worker) work() {
	e, code := w.queue.Min()
	switch {
	case code != api.OK || e.Key.Time >= w.bound || len(w.log) == w.left():
		w.leaveWork()
	case w.store.Room() == 0:
		w.giveUp(api.ErrNoRoom, e.Key)
	default:
		w.handle(e)
	}
}

// handle runs the handler of the first event of the queue.
func (w *worker) handle(e api.Event) {
	state, _ := w.store.State(w.place[e.Dst])
	effect := vm.Run(w.programs[e.Dst], api.Call{Event: e, State: state, Look: w.look, Parts: len(w.programs), Fuel: w.fuel})
	if effect.Code != api.OK {
		w.giveUp(effect.Code, e.Key)
		return
	}
	w.queue.Pop()
	w.log = append(w.log, e)
	// The log has room, and the keys of what a worker executes rise: nothing is refused.
	w.store.Put(w.place[e.Dst], e.Key, effect.State)
	for _, sent := range effect.Out {
		if w.send(sent) != api.OK {
			w.giveUp(api.ErrNoRoom, e.Key)
			return
		}
	}
}

// send lays an event where its part's owner will find it.
func (w *worker) send(e api.Event) api.Errno {
	to := w.owner[e.Dst]
	if to == w.me {
		return w.queue.Insert(e)
	}
	return w.post.Send(w.me, to, e)
}

// giveUp leaves off working for a fault or for want of room.
func (w *worker) giveUp(code api.Errno, at api.Key) {
	w.fail(code, at)
	w.leaveWork()
}

// leaveWork goes on to PhFail, and to the next phase of the post: all must have gone there ahead of the first who drains. Who found its box full stays behind there; nobody drains any more then.
func (w *worker) leaveWork() {
	w.post.Flip(w.me)
	w.phase = api.PhFail
}

func (w *worker) agreeOnFailure() {
	v, through := w.agree(w.fails, w.failVote)
	switch {
	case !through:
	case v.Bad:
		w.takeBack(0)
		w.finish(api.Result{Kind: api.Resource, Code: api.ErrNoRoom, Window: w.window})
	default:
		w.phase = api.PhCount
	}
}

func (w *worker) failVote() api.Vote {
	if w.lacksRoom() {
		return api.Vote{Bad: true}
	}
	return api.Vote{Fault: w.code != api.OK, At: w.at, Code: w.code}
}

func (w *worker) agreeOnCount() {
	v, through := w.agree(w.counts, w.countVote)
	if !through {
		return
	}
	failure := w.failure()
	switch {
	case v.Count > w.left() || v.Count == w.left() && failure.Fault:
		w.phase = api.PhShow
	case failure.Fault:
		w.takeBack(w.counted())
		w.finish(api.Result{Kind: api.Fault, Code: failure.Code, At: failure.At})
	default:
		w.window++
		w.phase = api.PhDrain
	}
}

func (w *worker) countVote() api.Vote { return api.Vote{Count: w.counted()} }

// show lays the keys open that the worker has counted.
func (w *worker) show() {
	keys := make([]api.Key, w.counted())
	for i := range keys {
		keys[i] = w.log[i].Key
	}
	w.open[w.me] = keys
	w.phase = api.PhMeet
}

func (w *worker) meet() {
	if through, _ := w.gate.Wait(w.me); through {
		w.phase = api.PhChoose
	}
}

// choose takes back what is behind the last key for which the budget is enough.
func (w *worker) choose() {
	keys := slices.Concat(w.open...)
	slices.SortFunc(keys, stamp.Compare)
	// At least as many keys as are left of the budget were counted, and at least one is left.
	last := keys[w.left()-1]
	w.takeBack(w.upTo(last))
	w.finish(api.Result{Kind: api.Cut})
}
