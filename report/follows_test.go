package report_test

import (
	"testing"

	"horizon/api"
	"horizon/kernel"
	"horizon/report"
	"horizon/seqrun"
)

// What the chapter says follows from its rules, held against the answers alone.

// 17.10: what is counted sums up to the number of events, whatever one counts by.
func TestSums(t *testing.T) {
	m := maker{chance: 1710}
	all := 0
	for range 1000 {
		p := m.plan(t)
		r := seqrun.Run(p)
		tallied, sent, kinds, buckets, balance := 0, 0, 0, 0, 0
		for _, x := range report.Tallies(r) {
			tallied += x.Events
			sent += x.Sent
		}
		for _, x := range report.Kinds(r) {
			kinds += x.Events
		}
		l, code := report.Histogram(r, max(1, m.time()))
		for _, x := range l {
			buckets += x.Events
		}
		layout, fault := kernel.Spread(p, 1+m.below(5), 1+m.below(4))
		shares, wrong := report.Balance(layout, r)
		for _, n := range shares {
			balance += n
		}
		if n := len(r.Trace); code != api.OK || fault != api.OK || wrong != api.OK || tallied != n || sent != n || kinds != n || buckets != n || balance != n {
			t.Fatalf("of %d events: tallies %d and %d, kinds %d, buckets %d, balance %d (%d, %d)", n, tallied, sent, kinds, buckets, balance, fault, wrong)
		}
		all += len(r.Trace)
	}
	if all < 5000 {
		t.Errorf("only %d events", all)
	}
}

// windowsOf is the number of the window in which each event of a run stands.
func windowsOf(p api.Plan) (l []int) {
	for _, w := range seqrun.Windows(p) {
		for range w.Events {
			l = append(l, w.Number)
		}
	}
	return l
}

// 17.10: along the links times rise by Look at least; sender and sent stand in two windows; a chain of senders is no longer than there are windows.
func TestLinksRise(t *testing.T) {
	m := maker{chance: 17100}
	linked := 0
	for range 1000 {
		p := m.plan(t)
		r := seqrun.Run(p)
		links, code := report.Links(p, r)
		if code != api.OK || len(links) != len(r.Trace) {
			t.Fatalf("%d links of %d events, %d", len(links), len(r.Trace), code)
		}
		windows, senders := windowsOf(p), make([]int, len(links))
		for i, x := range links {
			senders[i] = 1
			if x.From == -1 {
				continue
			}
			linked++
			senders[i] += senders[x.From]
			from, to := r.Trace[x.From].Key.Time, r.Trace[i].Key.Time
			if x.At != i || x.From >= i || to < from || to-from < p.Look || windows[x.From] >= windows[i] || r.Trace[i].Key.Src != r.Trace[x.From].Dst {
				t.Fatalf("%v: %v sent %v", x, r.Trace[x.From], r.Trace[i])
			}
			if senders[i] > windows[i] {
				t.Fatalf("%d senders in %d windows", senders[i], windows[i])
			}
		}
	}
	if linked < 5000 {
		t.Errorf("only %d events were sent by others", linked)
	}
}

// 17.8: each event of a chain waits for the one ahead of it; and the whole can be run in as many steps as the chain has events, each event behind all that it waits for: so no shorter chain would do, and none is longer.
func TestChainIsTheLongest(t *testing.T) {
	m := maker{chance: 178}
	for range 500 {
		p := m.plan(t)
		r := seqrun.Run(p)
		links, _ := report.Links(p, r)
		chain, code := report.Chain(p, r)
		if code != api.OK || (len(chain) == 0) != (len(r.Trace) == 0) {
			t.Fatalf("the chain %v of %d events, %d", chain, len(r.Trace), code)
		}
		for i := 1; i < len(chain); i++ {
			at := chain[i]
			if chain[i-1] >= at || links[at].From != chain[i-1] && nearest(r.Trace, at) != chain[i-1] {
				t.Fatalf("%v: the event %d does not wait for %d", chain, at, chain[i-1])
			}
		}
		if n := stepsOf(r.Trace, links); n != len(chain) {
			t.Fatalf("%d steps, and the chain %v", n, chain)
		}
	}
}

// stepsOf is in how many steps a trace can be run, if in each step all events are run at once that wait for nothing.
func stepsOf(trace []api.Event, links []api.Link) (steps int) {
	done := make([]bool, len(trace))
	waits := func(i int) bool {
		if from := links[i].From; from >= 0 && !done[from] {
			return true
		}
		for j := range i {
			if trace[j].Dst == trace[i].Dst && !done[j] {
				return true
			}
		}
		return false
	}
	for left := len(trace); left > 0; steps++ {
		var now []int
		for i := range trace {
			if !done[i] && !waits(i) {
				now = append(now, i)
			}
		}
		for _, i := range now {
			done[i] = true
		}
		left -= len(now)
	}
	return steps
}
