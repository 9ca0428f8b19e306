package report

import (
	"slices"

	"horizon/api"
	"horizon/seqrun"
	"horizon/vm"
)

// none stands for a place where there is no event.
const none = -1

// linksOf tells who sent what, by running the handlers of a trace of a valid plan anew: a trace doesn't say what a handler sent.
func linksOf(p api.Plan, trace []api.Event) []api.Link {
	first, _ := seqrun.First(p)
	states := first.States
	senders := map[api.Key]int{}
	links := make([]api.Link, len(trace))
	for i, e := range trace {
		links[i] = api.Link{At: i, From: placeIn(senders, e.Key)}
		effect := vm.Run(p.Programs[p.Parts[e.Dst].Program], callOf(p, e, states[e.Dst]))
		states[e.Dst] = effect.State
		for _, out := range effect.Out {
			senders[out.Key] = i
		}
	}
	return links
}

func callOf(p api.Plan, e api.Event, s api.State) api.Call {
	return api.Call{Event: e, State: s, Look: p.Look, Parts: len(p.Parts), Fuel: p.Fuel}
}

func placeIn[K comparable](places map[K]int, key K) int {
	if at, ok := places[key]; ok {
		return at
	}
	return none
}

// depth of an event of a trace, and the places of the two events that it waits for.
type depth struct {
	sender int
	ahead  int // the nearest event ahead that happens to the same part
	events int
}

func depthsOf(trace []api.Event, links []api.Link) []depth {
	last := map[int]int{}
	l := make([]depth, len(trace))
	for i, e := range trace {
		sender, ahead := links[i].From, placeIn(last, e.Dst)
		l[i] = depth{sender: sender, ahead: ahead, events: 1 + max(eventsTo(l, sender), eventsTo(l, ahead))}
		last[e.Dst] = i
	}
	return l
}

// eventsTo is how deep the event at a place is; 0, where there is none.
func eventsTo(l []depth, place int) int {
	if place == none {
		return 0
	}
	return l[place].events
}

// longest is the places of the chain that ends at the first of the deepest events.
func longest(l []depth) []int {
	var chain []int
	for at := deepest(l); at != none; at = inFront(l, at) {
		chain = append(chain, at)
	}
	slices.Reverse(chain)
	return chain
}

func deepest(l []depth) int {
	best := none
	for i, x := range l {
		if x.events > eventsTo(l, best) {
			best = i
		}
	}
	return best
}

// inFront is the place that stands ahead of another one in the chain; none ahead of an event of depth 1, which waits for nothing.
func inFront(l []depth, at int) int {
	x := l[at]
	if eventsTo(l, x.sender) == x.events-1 {
		return x.sender
	}
	return x.ahead
}
