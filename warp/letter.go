package warp

import "horizon/api"

// letter is what is under way to a worker: an event, or what takes one back.
type letter interface {
	takenIn(w *self)
}

type event struct{ api.Event }

type antiEvent struct{ api.Event }

// takenIn undoes what the worker has executed too early: the event goes ahead of it.
func (l event) takenIn(w *self) {
	for w.isAheadOf(l.Key) {
		w.undoLast()
	}
	w.pending.add(l.Event)
}

// takenIn makes the event pending anew, if it was executed, and takes it away. It was sent ahead of what takes it back, so it is there.
func (l antiEvent) takenIn(w *self) {
	for !w.pending.has(l.Key) {
		w.undoLast()
	}
	w.pending.remove(l.Key)
}

// told is a letter as it can be seen.
func told(l letter) api.Letter {
	switch l := l.(type) {
	case event:
		return api.Letter{Event: l.Event}
	case antiEvent:
		return api.Letter{Event: l.Event, Anti: true}
	}
	return api.Letter{}
}
