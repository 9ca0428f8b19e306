package worker

import (
	"slices"

	"horizon/api"
	"horizon/splay"
	"horizon/stamp"
	"horizon/store"
)

// worker is what a worker has for itself, with what all of them share.
type worker struct {
	*shared
	me        int
	phase     int
	window    int
	bound     uint64
	queue     *splay.Queue
	store     *store.Store // of its own parts
	log       []api.Event
	trace     []api.Event
	committed int // how many windows
	total     int // how many events of all workers
	code      api.Errno
	at        api.Key
	outcome   api.Result // how it has finished; without states and trace
}

// newWorker is a worker at the start: the pending events and the states of a plan's first point that are its own are there.
func newWorker(all *shared, me int, l api.Layout, first api.Point) *worker {
	w := &worker{shared: all, me: me, phase: api.PhDrain, window: 1}
	// A valid layout has room for all of these.
	w.queue, _ = splay.New(l.Arena)
	for _, e := range first.Pending {
		if l.Owner[e.Dst] == me {
			w.queue.Insert(e)
		}
	}
	var own []api.State
	for part, v := range first.States {
		if l.Owner[part] == me {
			own = append(own, v)
		}
	}
	w.store, _ = store.New(own, l.Undo)
	return w
}

func (w *worker) view() api.View {
	return api.View{
		Phase:   w.phase,
		Window:  w.window,
		Bound:   w.bound,
		Pending: w.queue.List(),
		Log:     slices.Clone(w.log),
		Trace:   slices.Clone(w.trace),
		Total:   w.total,
		Code:    w.code,
		At:      w.at,
	}
}

func (w *worker) over() bool { return w.phase == api.PhOver }

// left is how many events may still be executed by all, of those that the worker knows of.
func (w *worker) left() int { return w.budget - w.total }

// fail keeps what has gone wrong with the worker, and at which event.
func (w *worker) fail(code api.Errno, at api.Key) { w.code, w.at = code, at }

func (w *worker) lacksRoom() bool { return w.code == api.ErrNoRoom }

// failure is the least failure of all workers, as agreed on last.
func (w *worker) failure() api.Vote {
	v, _ := w.fails.Value(w.me)
	return v
}

// counted is how many events of the log count: those ahead of the least failure, if there is one.
func (w *worker) counted() int {
	failure := w.failure()
	if !failure.Fault {
		return len(w.log)
	}
	return w.upTo(failure.At)
}

// upTo is how many events of the log have no keys above k.
func (w *worker) upTo(k api.Key) int {
	n := 0
	for n < len(w.log) && stamp.Compare(w.log[n].Key, k) <= 0 {
		n++
	}
	return n
}

// commit lays the log of the window ahead behind the trace.
func (w *worker) commit() {
	w.store.Commit()
	w.trace = append(w.trace, w.log...)
	w.log = nil
	w.committed = w.window - 1
	// In window 1 nothing was counted yet: the vote is the zero one.
	v, _ := w.counts.Value(w.me)
	w.total += v.Count
}

// takeBack leaves so many events in the log, and gives the parts of the others the states ahead of them.
func (w *worker) takeBack(kept int) {
	if kept < len(w.log) {
		w.store.Back(w.log[kept].Key)
		w.log = w.log[:kept]
	}
}

// finish keeps how the run has ended for the worker.
func (w *worker) finish(outcome api.Result) {
	w.outcome = outcome
	w.phase = api.PhOver
}
