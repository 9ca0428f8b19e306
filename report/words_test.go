package report_test

import (
	"fmt"
	"strings"
	"testing"

	"horizon/api"
	"horizon/seqrun"
	"horizon/stamp"
)

// The chapter, read a second time: slowly, without maps and without sorting.

// ranked is the numbers that stand in a list, each once, rising.
func ranked(l []int) (out []int) {
	for _, x := range l {
		at := 0
		for at < len(out) && out[at] < x {
			at++
		}
		if at == len(out) || out[at] != x {
			out = append(out[:at:at], append([]int{x}, out[at:]...)...)
		}
	}
	return out
}

// slowTallies is 17.1.
func slowTallies(r api.Result) (l []api.Tally) {
	var numbers []int
	for _, e := range r.Trace {
		numbers = append(numbers, e.Dst, e.Key.Src)
	}
	for _, part := range ranked(numbers) {
		x := api.Tally{Part: part}
		for _, e := range r.Trace {
			if e.Key.Src == part {
				x.Sent++
			}
			if e.Dst != part {
				continue
			}
			if x.Events == 0 || e.Key.Time < x.First {
				x.First = e.Key.Time
			}
			if x.Events == 0 || e.Key.Time > x.Last {
				x.Last = e.Key.Time
			}
			x.Events++
		}
		l = append(l, x)
	}
	return l
}

// slowKinds is 17.2: from the greatest number that there can be down to 1, the kinds that have it.
func slowKinds(r api.Result) (l []api.Count) {
	var kinds []int
	for _, e := range r.Trace {
		kinds = append(kinds, e.Kind)
	}
	for n := len(r.Trace); n > 0; n-- {
		for _, kind := range ranked(kinds) {
			events := 0
			for _, k := range kinds {
				if k == kind {
					events++
				}
			}
			if events == n {
				l = append(l, api.Count{Kind: kind, Events: n})
			}
		}
	}
	return l
}

// slowHistogram is 17.3: again and again the least time that is in no bucket yet tells the next bucket.
func slowHistogram(r api.Result, width uint64) (l []api.Bucket, code api.Errno) {
	if width == 0 {
		return nil, api.ErrWidth
	}
	left := r.Trace
	for len(left) > 0 {
		low := left[0].Key.Time
		for _, e := range left {
			low = min(low, e.Key.Time)
		}
		b := api.Bucket{From: low / width * width}
		var rest []api.Event
		for _, e := range left {
			if b.From <= e.Key.Time && e.Key.Time-b.From < width {
				b.Events++
			} else {
				rest = append(rest, e)
			}
		}
		l, left = append(l, b), rest
	}
	return l, api.OK
}

// slowMean is 17.4.
func slowMean(r api.Result, part int) (float64, api.Errno) {
	var own []api.Event
	for _, e := range r.Trace {
		if e.Dst == part {
			own = append(own, e)
		}
	}
	if len(own) < 2 {
		return 0, api.ErrNone
	}
	first, last := own[0].Key.Time, own[len(own)-1].Key.Time
	if last < first {
		return 0, api.ErrTrace
	}
	span, number := float64(last-first), float64(len(own)-1)
	return span / number, api.OK
}

// slowBalance is 17.5: each error by a walk of its own.
func slowBalance(l api.Layout, r api.Result) ([]int, api.Errno) {
	if l.Workers < 1 || l.Workers > 64 {
		return nil, api.ErrWorkers
	}
	for _, w := range l.Owner {
		if w < 0 || w > l.Workers-1 {
			return nil, api.ErrOwner
		}
	}
	for _, e := range r.Trace {
		if e.Dst < 0 || e.Dst > len(l.Owner)-1 {
			return nil, api.ErrTrace
		}
	}
	var shares []int
	for w := range l.Workers {
		n := 0
		for _, e := range r.Trace {
			if l.Owner[e.Dst] == w {
				n++
			}
		}
		shares = append(shares, n)
	}
	return shares, api.OK
}

// slowDiff is 17.6.
func slowDiff(a, b api.Result) int {
	for i := 0; ; i++ {
		inA, inB := i < len(a.Trace), i < len(b.Trace)
		switch {
		case !inA && !inB:
			return -1
		case inA != inB:
			return i
		case stamp.Text(a.Trace[i]) != stamp.Text(b.Trace[i]):
			return i
		}
	}
}

// slowLinks is 17.7: what is pending behind a step and was not ahead of it was sent by the step's event.
func slowLinks(t *testing.T, p api.Plan, r api.Result) ([]api.Link, api.Errno) {
	t.Helper()
	if code := seqrun.Valid(p); code != api.OK {
		return nil, code
	}
	whole := seqrun.Run(p).Trace
	if len(r.Trace) > len(whole) || texts(whole[:len(r.Trace)]) != texts(r.Trace) {
		return nil, api.ErrTrace
	}
	at, _ := seqrun.First(p)
	sim, code := seqrun.Open(p, at)
	if code != api.OK {
		t.Fatalf("Open is %d", code)
	}
	from := map[string]int{}
	for _, e := range at.Pending {
		from[stamp.Text(e)] = -1
	}
	var l []api.Link
	for i, e := range r.Trace {
		l = append(l, api.Link{At: i, From: from[stamp.Text(e)]})
		sim.Step()
		for _, e := range sim.Point().Pending {
			if _, there := from[stamp.Text(e)]; !there {
				from[stamp.Text(e)] = i
			}
		}
	}
	return l, api.OK
}

// nearest is the place of the nearest event ahead with the same Dst, or -1.
func nearest(trace []api.Event, i int) int {
	for j := i - 1; j >= 0; j-- {
		if trace[j].Dst == trace[i].Dst {
			return j
		}
	}
	return -1
}

// slowChain is 17.8.
func slowChain(t *testing.T, p api.Plan, r api.Result) ([]int, api.Errno) {
	t.Helper()
	links, code := slowLinks(t, p, r)
	if code != api.OK {
		return nil, code
	}
	var depths []int
	for i := range r.Trace {
		d := 1
		if from := links[i].From; from >= 0 {
			d = max(d, depths[from]+1)
		}
		if j := nearest(r.Trace, i); j >= 0 {
			d = max(d, depths[j]+1)
		}
		depths = append(depths, d)
	}
	if len(depths) == 0 {
		return nil, api.OK
	}
	end := 0
	for i, d := range depths {
		if d > depths[end] {
			end = i
		}
	}
	chain := []int{end}
	for depths[chain[0]] > 1 {
		i := chain[0]
		ahead := nearest(r.Trace, i)
		if from := links[i].From; from >= 0 && depths[from] == depths[i]-1 {
			ahead = from
		}
		chain = append([]int{ahead}, chain...)
	}
	return chain, api.OK
}

// slowText is 17.9.
func slowText(r api.Result) string {
	lines := []string{fmt.Sprintf("result %d", r.Kind)}
	switch r.Kind {
	case 1:
		lines = []string{"done"}
	case 2:
		lines = []string{"cut"}
	case 3:
		lines = []string{fmt.Sprintf("fault %d at %d.%d.%d", int(r.Code), r.At.Time, r.At.Src, r.At.Seq)}
	case 4:
		lines = []string{fmt.Sprintf("resource %d", r.Window)}
	case 5:
		lines = []string{"unfinished"}
	case 6:
		lines = []string{fmt.Sprintf("rejected %d", int(r.Code))}
	}
	lines = append(lines, fmt.Sprintf("events %d", len(r.Trace)))
	for i, v := range r.States {
		words := ""
		for _, w := range v.Words {
			words += fmt.Sprintf("%d ", w)
		}
		lines = append(lines, fmt.Sprintf("part %d: %sdice %d sent %d", i, words, v.Dice, v.Sent))
	}
	for _, e := range r.Trace {
		lines = append(lines, stamp.Text(e))
	}
	return strings.Join(lines, "\n") + "\n"
}
