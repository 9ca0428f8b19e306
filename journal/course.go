package journal

import (
	"horizon/api"
	"horizon/seqrun"
	"horizon/stamp"
)

// course is a run from a point on. One run has gone ahead to its end, for where a window ends is known only behind it; a second one stands behind the windows that were passed.
type course struct {
	coming [][]api.Event // the windows that were not passed yet
	result api.Result
	here   *seqrun.Sim
}

// courseFrom is the run from a point on, if seqrun takes that point. What comes behind is not opened anew: a point of this run may be one that seqrun would not take (a Sent that has gone above the bound).
func courseFrom(p api.Plan, at api.Point) (*course, api.Errno) {
	lead, code := seqrun.Open(p, at)
	if code != api.OK {
		return nil, code
	}
	for code == api.OK {
		_, code = lead.Step()
	}
	r := lead.Result()
	here, code := seqrun.Open(p, at)
	return &course{coming: inWindows(p, r.Trace[len(at.Trace):]), result: r, here: here}, code
}

// inWindows cuts what a run has executed into its windows. Each has an event at least: what is executed is ahead of the end.
func inWindows(p api.Plan, events []api.Event) [][]api.Event {
	var windows [][]api.Event
	for len(events) > 0 {
		bound := stamp.Bound(events[0].Key.Time, p.Look, p.End)
		n := 0
		for n < len(events) && events[n].Key.Time < bound {
			n++
		}
		windows = append(windows, events[:n])
		events = events[n:]
	}
	return windows
}

// over tells whether no window comes any more.
func (c *course) over() bool { return len(c.coming) == 0 }

// pass goes on by one window, if the run is not over, and is the events of it.
func (c *course) pass() []api.Event {
	events := c.coming[0]
	c.coming = c.coming[1:]
	for range events {
		c.here.Step()
	}
	return events
}
