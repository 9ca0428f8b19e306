package warp

import (
	"horizon/api"
	"horizon/stamp"
)

// What a step did, numbered as package api does.
const (
	idle = api.WarpIdle + iota
	ran
	stuck
	full
)

// self is what a worker has for itself, with the team that it is of.
type self struct {
	team    *Team
	me      int
	pending *pending
	done    []deed
	mail    []letter
	back    int // how many events it has undone
	anti    int // how many anti-events it has sent
}

// deed is an executed event that is not committed, with what it takes to undo it.
type deed struct {
	event api.Event
	ahead api.State // of its part
	sent  []api.Event
}

func (w *self) step() int {
	w.takeIn()
	e, any := w.pending.least()
	switch {
	case !any || e.Key.Time >= w.team.end:
		return idle
	case len(w.done) == w.team.undo:
		return full
	}
	effect := w.team.lookAt(e)
	if effect.Code != api.OK {
		return stuck
	}
	w.execute(e, effect)
	return ran
}

// takeIn takes in all mail. What is undone meanwhile sends nothing to the worker itself.
func (w *self) takeIn() {
	for _, l := range w.mail {
		l.takenIn(w)
	}
	w.mail = nil
}

// execute makes what an event's handler did count, for as long as nothing shows that it was too early.
func (w *self) execute(e api.Event, effect api.Effect) {
	w.pending.remove(e.Key)
	w.done = append(w.done, deed{event: e, ahead: w.team.states[e.Dst], sent: effect.Out})
	w.team.states[e.Dst] = effect.State
	for _, sent := range effect.Out {
		if to := w.team.ownerOf(sent); to == w {
			w.pending.add(sent)
		} else {
			to.mail = append(to.mail, event{sent})
		}
	}
}

// isAheadOf tells whether the worker has executed an event with a key above k.
func (w *self) isAheadOf(k api.Key) bool {
	last := len(w.done) - 1
	return last >= 0 && stamp.Compare(w.done[last].event.Key, k) > 0
}

// undoLast undoes the event that was executed last.
func (w *self) undoLast() {
	last := len(w.done) - 1
	d := w.done[last]
	w.done[last] = deed{} // what it holds is of no use any more
	w.done = w.done[:last]
	w.team.states[d.event.Dst] = d.ahead
	w.pending.add(d.event)
	w.back++
	for _, sent := range d.sent {
		w.takeBack(sent)
	}
}

// takeBack takes an event back that the worker has sent. One to a part of its own is pending: what was executed behind it is undone.
func (w *self) takeBack(sent api.Event) {
	to := w.team.ownerOf(sent)
	if to == w {
		w.pending.remove(sent.Key)
		return
	}
	to.mail = append(to.mail, antiEvent{sent})
	w.anti++
}

// settle lets go of the first event that is executed: it is committed.
func (w *self) settle() api.Event {
	e := w.done[0].event
	w.done[0] = deed{} // what it holds is of no use any more
	w.done = w.done[1:]
	return e
}

func (w *self) view() api.Warp {
	v := api.Warp{Pending: w.pending.inOrder(), Back: w.back, Anti: w.anti}
	for _, d := range w.done {
		v.Done = append(v.Done, d.event)
	}
	for _, l := range w.mail {
		v.Mail = append(v.Mail, told(l))
	}
	return v
}
