package report_test

import (
	"fmt"
	"slices"
	"testing"

	"horizon/api"
	"horizon/report"
	"horizon/seqrun"
)

// roomy is a list with some room behind its end, in which something lies.
func roomy[T any](l []T, behind T) []T {
	out := append(make([]T, 0, len(l)+3), l...)
	spoil(out[len(out):cap(out)], behind)
	return out
}

var (
	junkPart  = api.Part{Program: 77, Words: []int64{77}}
	junkStart = api.Start{Time: 77, Dst: 77, Kind: 77, Data: 77}
	junkInstr = api.Instr{Op: api.IFail, A: 77, B: 77}
	junkEvent = api.Event{Key: api.Key{Time: 77, Src: 77, Seq: 77}, Dst: 77, Kind: 77, Data: 77}
	junkState = api.State{Words: []int64{77}, Dice: 77, Sent: 77}
)

func roomyPlan(p api.Plan) api.Plan {
	p.Programs, p.Parts, p.Starts = roomy(p.Programs, api.Program{Words: 77}), roomy(p.Parts, junkPart), roomy(p.Starts, junkStart)
	for i, g := range p.Programs {
		p.Programs[i].Code, p.Programs[i].Entry = roomy(g.Code, junkInstr), roomy(g.Entry, 77)
	}
	for i, part := range p.Parts {
		p.Parts[i].Words = roomy(part.Words, 77)
	}
	return p
}

func roomyResult(r api.Result) api.Result {
	r.States, r.Trace = roomy(r.States, junkState), roomy(r.Trace, junkEvent)
	for i, v := range r.States {
		r.States[i].Words = roomy(v.Words, 77)
	}
	return r
}

// whole is all that is in a plan, a layout and a result, with what lies behind the ends of their lists.
func whole(p api.Plan, l api.Layout, r api.Result) string {
	p.Programs, p.Parts, p.Starts = slices.Clone(p.Programs[:cap(p.Programs)]), slices.Clone(p.Parts[:cap(p.Parts)]), p.Starts[:cap(p.Starts)]
	for i, g := range p.Programs {
		p.Programs[i].Code, p.Programs[i].Entry = g.Code[:cap(g.Code)], g.Entry[:cap(g.Entry)]
	}
	for i, part := range p.Parts {
		p.Parts[i].Words = part.Words[:cap(part.Words)]
	}
	l.Owner = l.Owner[:cap(l.Owner)]
	r.States, r.Trace = slices.Clone(r.States[:cap(r.States)]), r.Trace[:cap(r.Trace)]
	for i, v := range r.States {
		r.States[i].Words = v.Words[:cap(v.Words)]
	}
	return fmt.Sprint(p, l, r)
}

func spoilPlan(p api.Plan) {
	for _, g := range p.Programs {
		spoil(g.Code, junkInstr)
		spoil(g.Entry, 77)
	}
	for _, part := range p.Parts {
		spoil(part.Words, 77)
	}
	spoil(p.Parts, junkPart)
	spoil(p.Starts, junkStart)
}

func spoilResult(r api.Result) {
	for _, v := range r.States {
		spoil(v.Words, 77)
	}
	spoil(r.States, junkState)
	spoil(r.Trace, junkEvent)
}

// given is a plan, a layout and a result with room behind their lists.
func given(t *testing.T) (api.Plan, api.Layout, api.Result) {
	t.Helper()
	p := roomyPlan(scenario(t, shop))
	return p, api.Layout{Workers: 3, Owner: roomy([]int{2, 0, 1, 2}, 77)}, roomyResult(seqrun.Run(p))
}

// answers is what all calls answer.
type answers struct {
	tallies []api.Tally
	kinds   []api.Count
	buckets []api.Bucket
	mean    float64
	shares  []int
	place   int
	links   []api.Link
	chain   []int
	text    string
}

func asked(p api.Plan, l api.Layout, r api.Result) (a answers) {
	a.tallies, a.kinds, a.text = report.Tallies(r), report.Kinds(r), report.Text(r)
	a.buckets, _ = report.Histogram(r, 10)
	a.mean, _ = report.Mean(r, 1)
	a.shares, _ = report.Balance(l, r)
	a.place = report.Diff(r, api.Result{Trace: r.Trace[:3]})
	a.links, _ = report.Links(p, r)
	a.chain, _ = report.Chain(p, r)
	return a
}

// 0.4: no call changes what is handed in, nor what lies behind its lists.
func TestHandedInIsNotChanged(t *testing.T) {
	p, l, r := given(t)
	before := whole(p, l, r)
	a := asked(p, l, r)
	if len(a.tallies) == 0 || len(a.kinds) == 0 || len(a.buckets) == 0 || len(a.shares) == 0 || len(a.links) == 0 || len(a.chain) == 0 || a.mean == 0 || a.place != 3 {
		t.Fatalf("an answer is empty: %v", a)
	}
	asked(p, l, api.Result{Trace: r.Trace[:3]})
	asked(p, api.Layout{Workers: 3, Owner: l.Owner[:2]}, r)
	same(t, "what was handed in", whole(p, l, r), before)
}

// 0.4: who writes over what was handed in changes no answer.
func TestHandedInIsNotKept(t *testing.T) {
	p, l, r := given(t)
	a := asked(p, l, r)
	before := fmt.Sprint(a)
	spoilPlan(p)
	spoil(l.Owner, 77)
	spoilResult(r)
	same(t, "the answers", fmt.Sprint(a), before)
}

// 0.4: who writes over an answer changes no other answer, and nothing of what was handed in.
func TestHandedOutIsApart(t *testing.T) {
	p, l, r := given(t)
	before := whole(p, l, r)
	a, b := asked(p, l, r), asked(p, l, r)
	wanted := fmt.Sprint(b)
	spoil(a.tallies, api.Tally{Part: 77})
	spoil(a.kinds, api.Count{Kind: 77})
	spoil(a.buckets, api.Bucket{From: 77})
	spoil(a.shares, 77)
	spoil(a.links, api.Link{At: 77})
	spoil(a.chain, 77)
	same(t, "another answer", fmt.Sprint(b), wanted)
	same(t, "what was handed in", whole(p, l, r), before)
	same(t, "asked again", fmt.Sprint(asked(p, l, r)), wanted)
}
