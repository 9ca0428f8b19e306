package report_test

import (
	"slices"
	"testing"

	"horizon/api"
	"horizon/report"
	"horizon/seqrun"
)

// 17.1, 17.2, 17.3, 17.9: results that no run need have, against the chapter's words.
func TestCountsThrown(t *testing.T) {
	c := chance(171)
	for range 5000 {
		r := c.result()
		same(t, r, told(report.Tallies(r), 0), told(slowTallies(r), 0))
		same(t, r, told(report.Kinds(r), 0), told(slowKinds(r), 0))
		same(t, r, report.Text(r), slowText(r))
		for _, width := range []uint64{0, 1, uint64(1 + c.below(9)), c.time(), c.next()} {
			l, code := report.Histogram(r, width)
			m, want := slowHistogram(r, width)
			same(t, r, told(l, code), told(m, want))
		}
	}
}

// 17.4: each part that stands in a thrown result, and some that don't, against the chapter's words.
func TestMeanThrown(t *testing.T) {
	c := chance(174)
	hits := map[api.Errno]int{}
	for range 5000 {
		r := c.result()
		if c.below(2) == 0 {
			slices.SortFunc(r.Trace, func(a, b api.Event) int {
				if a.Key.Time < b.Key.Time {
					return -1
				}
				return 1
			})
		}
		for _, part := range []int{-2, -1, 0, 1, 2, 3, c.number()} {
			x, code := report.Mean(r, part)
			same(t, r, mean(x, code), mean(slowMean(r, part)))
			hits[code]++
		}
	}
	if hits[api.OK] < 1000 || hits[api.ErrNone] < 1000 || hits[api.ErrTrace] < 1000 {
		t.Errorf("errors %v", hits)
	}
}

// 17.5: thrown layouts, against the chapter's words.
func TestBalanceThrown(t *testing.T) {
	c := chance(175)
	hits := map[api.Errno]int{}
	for range 20000 {
		l := api.Layout{Workers: pick(&c, 0, 1, 2, 3, 4, 5, 64, 65, c.number())}
		for range c.below(7) {
			l.Owner = append(l.Owner, pick(&c, 0, 0, 0, c.below(4), c.below(max(1, min(l.Workers, 9))), c.number()))
		}
		r := c.result()
		for i := range r.Trace {
			if c.below(20) > 0 {
				r.Trace[i].Dst = c.below(4)
			}
		}
		shares, code := report.Balance(l, r)
		m, want := slowBalance(l, r)
		same(t, l, told(shares, code), told(m, want))
		hits[code]++
	}
	for _, code := range []api.Errno{api.OK, api.ErrWorkers, api.ErrOwner, api.ErrTrace} {
		if hits[code] < 1000 {
			t.Errorf("the error %d came %d times", code, hits[code])
		}
	}
}

// changed is a trace with one event changed, left out or laid in.
func changed(c *chance, r api.Result) api.Result {
	r.Trace = slices.Clone(r.Trace)
	at := c.below(len(r.Trace) + 1)
	if at == len(r.Trace) || c.below(4) == 0 {
		r.Trace = slices.Insert(r.Trace, at, c.event())
		return r
	}
	e := &r.Trace[at]
	switch c.below(7) {
	case 0:
		e.Key.Time++
	case 1:
		e.Key.Src++
	case 2:
		e.Key.Seq++
	case 3:
		e.Dst++
	case 4:
		e.Kind++
	case 5:
		e.Data++
	case 6:
		r.Trace = slices.Delete(r.Trace, at, at+1)
	}
	return r
}

// 17.6: thrown traces and the same ones changed in one place, against the chapter's words.
func TestDiffThrown(t *testing.T) {
	c := chance(176)
	unlike := 0
	for range 5000 {
		a := c.result()
		b := a
		if c.below(4) > 0 {
			b = changed(&c, a)
		}
		n := report.Diff(a, b)
		if n != slowDiff(a, b) || report.Diff(b, a) != n {
			t.Fatalf("of %s and %s: %d, and %d", texts(a.Trace), texts(b.Trace), n, report.Diff(b, a))
		}
		if n > 0 {
			unlike++
		}
	}
	if unlike < 1000 {
		t.Errorf("only %d differ behind their first event", unlike)
	}
}

// 17.7, 17.8: thrown plans, their traces whole, cut and changed, against the chapter's words.
func TestCausesThrown(t *testing.T) {
	m := maker{chance: 177}
	hits, long, apart := map[api.Errno]int{}, 0, 0
	for range 1500 {
		p := m.plan(t)
		r := seqrun.Run(p)
		for _, x := range []api.Result{r, seqrun.Prefix(p, m.below(len(r.Trace)+1)), changed(&m.chance, r)} {
			links, code := report.Links(p, x)
			slow, want := slowLinks(t, p, x)
			same(t, texts(x.Trace), told(links, code), told(slow, want))
			chain, again := report.Chain(p, x)
			slowly, want := slowChain(t, p, x)
			same(t, texts(x.Trace), told(chain, again), told(slowly, want))
			hits[code]++
			long = max(long, len(chain))
			for i := 1; i < len(chain); i++ {
				if links[chain[i]].From != chain[i-1] {
					apart++
				}
			}
		}
	}
	if hits[api.OK] < 2000 || hits[api.ErrTrace] < 1000 || long < 20 || apart < 1000 {
		t.Errorf("errors %v, the longest chain has %d events, %d times the nearest event stands ahead", hits, long, apart)
	}
}
