package report

import "horizon/api"

// happened is a part's tally behind one more event that happens to it. Traces need not rise here: so both ends are looked at.
func happened(x api.Tally, time uint64) api.Tally {
	if x.Events == 0 {
		x.First, x.Last = time, time
	}
	x.First, x.Last = min(x.First, time), max(x.Last, time)
	x.Events++
	return x
}

// sent is a part's tally behind one more event that it sent.
func sent(x api.Tally) api.Tally {
	x.Sent++
	return x
}

// timesOf is the times of a part's events, in the order of the trace.
func timesOf(trace []api.Event, part int) []uint64 {
	var l []uint64
	for _, e := range trace {
		if e.Dst == part {
			l = append(l, e.Key.Time)
		}
	}
	return l
}
