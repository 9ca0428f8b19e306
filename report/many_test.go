package report_test

import (
	"strings"
	"testing"

	"horizon/api"
	"horizon/report"
	"horizon/seqrun"
)

// 17.1, 17.2, 17.3, 17.9: a great trace in which nearly no number comes twice: no call takes much more than it is long.
func TestGreatTrace(t *testing.T) {
	const n = 300000
	var r api.Result
	for i := range n {
		r.Trace = append(r.Trace, api.Event{Key: api.Key{Time: uint64(n - i), Src: i}, Dst: -i, Kind: -i / 2})
	}
	tallies, kinds := report.Tallies(r), report.Kinds(r)
	if len(tallies) != 2*n-1 || tallies[0] != (api.Tally{Part: 1 - n, Events: 1, First: 1, Last: 1}) || tallies[n-1] != (api.Tally{Part: 0, Events: 1, Sent: 1, First: n, Last: n}) {
		t.Errorf("%d tallies, %v", len(tallies), tallies[n-1])
	}
	// -i / 2 is rounded towards 0: so of each kind there are two.
	if len(kinds) != n/2 || kinds[0] != (api.Count{Kind: 1 - n/2, Events: 2}) || kinds[n/2-1] != (api.Count{Kind: 0, Events: 2}) {
		t.Errorf("%d kinds, %v, %v", len(kinds), kinds[0], kinds[len(kinds)-1])
	}
	buckets, code := report.Histogram(r, 1)
	if code != api.OK || len(buckets) != n || buckets[0] != (api.Bucket{From: 1, Events: 1}) || buckets[n-1] != (api.Bucket{From: n, Events: 1}) {
		t.Errorf("%d buckets, %d", len(buckets), code)
	}
	if s := report.Text(r); strings.Count(s, "\n") != n+2 {
		t.Errorf("%d lines", strings.Count(s, "\n"))
	}
	if place := report.Diff(r, api.Result{Trace: r.Trace[:n-1]}); place != n-1 {
		t.Errorf("they differ at %d", place)
	}
}

// 17.7, 17.8: as many events as a run can have; in the second plan each handler sends sixteen.
func TestMostEvents(t *testing.T) {
	for text, starts := range map[string]int{
		`look 1 end 99999 budget 4096 kind k type T { on k(x) { send k(x + 1) to (me + 1) % 3 after 1 } } place t[3] : T start k(0) to t[0] at 0`:                                                    1,
		`look 1 end 99999999 budget 4096 fuel 4096 kind k type T { on k(x) { let i = 0 while i < 16 { send k(i) to roll(3) after 1 + roll(5000) i = i + 1 } } } place t[3] : T start k(0) to t at 0`: 3,
	} {
		p := scenario(t, text)
		r := seqrun.Run(p)
		links, code := report.Links(p, r)
		if len(r.Trace) != api.MaxBudget || len(links) != api.MaxBudget || code != api.OK {
			t.Fatalf("%d events, %d links, %d", len(r.Trace), len(links), code)
		}
		for i, x := range links {
			if (x.From == -1) != (r.Trace[i].Key.Time == 0) {
				t.Fatalf("%v: %v", x, r.Trace[i])
			}
			if x.From == -1 {
				starts--
			}
		}
		if starts != 0 {
			t.Errorf("%d starts are missing", starts)
		}
		chain, code := report.Chain(p, r)
		if code != api.OK || len(chain) < api.MaxBudget/3 || len(chain) != stepsByPart(r.Trace, links) {
			t.Errorf("a chain of %d events, %d steps, %d", len(chain), stepsByPart(r.Trace, links), code)
		}
	}
}

// stepsByPart is in how many steps a trace can be run: each event a step behind its sender, and behind the last of its part.
func stepsByPart(trace []api.Event, links []api.Link) (steps int) {
	var parts [api.MaxParts]int
	at := make([]int, len(trace))
	for i, e := range trace {
		at[i] = parts[e.Dst] + 1
		if from := links[i].From; from >= 0 {
			at[i] = max(at[i], at[from]+1)
		}
		parts[e.Dst] = at[i]
		steps = max(steps, at[i])
	}
	return steps
}
