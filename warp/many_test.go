package warp_test

import (
	"math"
	"strings"
	"testing"

	"horizon/api"
	"horizon/seqrun"
	"horizon/vm"
	"horizon/warp"
)

// crowd is a plan with as many parts as can be, each of whose events sends as many events as can be sent to thrown parts.
func crowd(t *testing.T, budget int) api.Plan {
	t.Helper()
	g, err := vm.Assemble("words 1\nentry 0\nload 0\ndata\nadd\nsave 0\n" + strings.Repeat("load 0\npush 64\nroll\npush 30\nroll\npush 1\nadd\nsend 0\n", api.MaxOut) + "stop\n")
	if err != nil {
		t.Fatal(err)
	}
	p := api.Plan{Kinds: 1, Programs: []api.Program{g}, Look: 1, End: math.MaxUint64, Budget: budget, Fuel: api.MaxFuel, Seed: 3}
	for i := range api.MaxParts {
		p.Parts = append(p.Parts, api.Part{Words: []int64{int64(i)}})
		p.Starts = append(p.Starts, api.Start{Dst: i})
	}
	return p
}

// spreadOver gives the parts to so many workers in turn, with the least room of boxes and queues that is valid.
func spreadOver(workers, undo int) api.Layout {
	l := api.Layout{Workers: workers, Arena: api.MaxParts, Box: 1, Undo: undo}
	for part := range api.MaxParts {
		l.Owner = append(l.Owner, part%workers)
	}
	return l
}

// 18.8, 0.1: many parts, many workers, the greatest budget; neither queue nor box is looked at.
func TestMany(t *testing.T) {
	p := crowd(t, api.MaxBudget)
	want := seqrun.Run(p)
	for _, l := range []api.Layout{spreadOver(api.MaxWorkers, api.MaxUndo), spreadOver(16, 1), spreadOver(7, 100)} {
		r, err := warp.Fair(p, l, math.MaxInt)
		wantAnswer(t, l.Workers, r, err, want)
	}
}

// 18.2, 18.3, 18.12: a worker that runs as far ahead as can be, before the others have begun, is fetched back by the first letter.
func TestFarAhead(t *testing.T) {
	p := scenario(t, `look 1 end 9000 budget 4096 kind k, call
type T { var n on k(x) { n = n + x send k(x) to me after 1 if now % 3 == 0 { send k(0) to 2 after 7000 } } on call(x) { send k(0) to 0 after 1 } }
place t[3] : T
start k(1) to t[0] at 5
start call(1) to t[1] at 0`)
	l := wide(3, 0, 1, 2)
	team := made(t, p, l)
	for range api.MaxUndo {
		steps(t, team, 0, api.WarpRan)
	}
	steps(t, team, 0, api.WarpFull)
	steps(t, team, 1, api.WarpRan)
	steps(t, team, 2, api.WarpRan)
	steps(t, team, 0, api.WarpRan)
	v := view(t, team, 0)
	sent := (5+api.MaxUndo-1)/3 - 1
	if v.Back != api.MaxUndo || v.Anti != sent || keys(v.Done) != "1.1.1" || keys(v.Pending) != "2.0.1 5.0.0" {
		t.Errorf("back %d, anti %d, done %s, pending %s", v.Back, v.Anti, keys(v.Done), keys(v.Pending))
	}
	// Of all that was sent nothing is left at the worker 2 but what was fetched back.
	steps(t, team, 2, api.WarpIdle)
	wantView(t, team, 2, "|||1 0")
	gathers(t, team, 2)
	wantLow(t, team, "2.0.1", true)
	r, err := warp.Fair(p, l, warp.Enough(p, l))
	wantAnswer(t, "by turns", r, err, seqrun.Run(p))
}

// 18.3, 18.8: at the end of time: keys at the largest times, and a handler that fails because there is no later time.
func TestEndOfTime(t *testing.T) {
	p := scenario(t, "look 10 end 18446744073709551615 kind k type T { var last on k(x) { last = now send k(x) to 1 - me after 10 } } place t[2] : T start k(0) to t[0] at 18446744073709551590 start k(0) to t[1] at 18446744073709551615")
	team := made(t, p, wide(2, 0, 1))
	steps(t, team, 1, api.WarpIdle)
	steps(t, team, 0, api.WarpRan, api.WarpIdle)
	steps(t, team, 1, api.WarpRan, api.WarpIdle)
	steps(t, team, 0, api.WarpStuck)
	gathers(t, team, 2)
	wantLow(t, team, "18446744073709551610.1.1", true)
	wantEnd(t, "over", team.Result(), api.Fault, api.FaultTime, key(18446744073709551610, 1, 1), "18446744073709551590.0.0 18446744073709551600.0.1", -26, -16)
	wantResult(t, "over", team.Result(), seqrun.Run(p))
}
