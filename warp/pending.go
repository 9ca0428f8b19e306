package warp

import (
	"horizon/api"
	"horizon/stamp"
)

// pending is events that are there and not executed, by their keys. The least one is remembered from when it was found until it leaves: a Gather behind a step need not go through all of them again.
type pending struct {
	events map[api.Key]api.Event
	first  api.Event
	known  bool // whether first is the least one
}

func newPending() *pending { return &pending{events: map[api.Key]api.Event{}} }

func (p *pending) add(e api.Event) {
	p.events[e.Key] = e
	if p.known && stamp.Compare(e.Key, p.first.Key) < 0 {
		p.first = e
	}
}

func (p *pending) remove(k api.Key) {
	delete(p.events, k)
	if k == p.first.Key {
		p.known = false
	}
}

func (p *pending) has(k api.Key) bool {
	_, there := p.events[k]
	return there
}

// least is the event with the least key; false, if there is none.
func (p *pending) least() (api.Event, bool) {
	if !p.known {
		p.first, p.known = leastOf(p.events)
	}
	return p.first, p.known
}

// leastOf goes through all events; no two have one key, so the order in which that is done does not matter.
func leastOf(events map[api.Key]api.Event) (api.Event, bool) {
	var least api.Event
	any := false
	for k, e := range events {
		if !any || stamp.Compare(k, least.Key) < 0 {
			least, any = e, true
		}
	}
	return least, any
}

// inOrder is all events in the order of keys.
func (p *pending) inOrder() []api.Event {
	l := make([]api.Event, 0, len(p.events))
	for _, e := range p.events {
		l = append(l, e)
	}
	return stamp.Order(l)
}
