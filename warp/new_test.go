package warp_test

import (
	"math"
	"testing"

	"horizon/api"
	"horizon/seqrun"
	"horizon/warp"
	"horizon/worker"
)

// 18.1, 18.7: what worker.Valid refuses is refused with its error, the first that applies; there is no team, and no round is enough.
func TestRefused(t *testing.T) {
	for _, c := range []struct {
		want api.Errno
		turn func(p *api.Plan, l *api.Layout)
	}{
		{api.ErrKinds, func(p *api.Plan, l *api.Layout) { p.Kinds = -1 }},
		{api.ErrPrograms, func(p *api.Plan, l *api.Layout) { p.Kinds = 2 }},
		{api.ErrParts, func(p *api.Plan, l *api.Layout) { p.Parts[1].Program = 1 }},
		{api.ErrStarts, func(p *api.Plan, l *api.Layout) { p.Starts[1].Dst = 2 }},
		{api.ErrLook, func(p *api.Plan, l *api.Layout) { p.Look = 0 }},
		{api.ErrBudget, func(p *api.Plan, l *api.Layout) { p.Budget = -1 }},
		{api.ErrBudget, func(p *api.Plan, l *api.Layout) { p.Budget = api.MaxBudget + 1 }},
		{api.ErrFuel, func(p *api.Plan, l *api.Layout) { p.Fuel = 0 }},
		{api.ErrLook, func(p *api.Plan, l *api.Layout) { p.Look, l.Workers = 0, 0 }},
		{api.ErrWorkers, func(p *api.Plan, l *api.Layout) { l.Workers, l.Owner = 0, nil }},
		{api.ErrWorkers, func(p *api.Plan, l *api.Layout) { l.Workers = math.MinInt }},
		{api.ErrWorkers, func(p *api.Plan, l *api.Layout) { l.Workers = math.MaxInt }},
		{api.ErrWorkers, func(p *api.Plan, l *api.Layout) { l.Workers = api.MaxWorkers + 1 }},
		{api.ErrOwner, func(p *api.Plan, l *api.Layout) { l.Owner, l.Arena = []int{0}, 0 }},
		{api.ErrOwner, func(p *api.Plan, l *api.Layout) { l.Owner[1] = 2 }},
		{api.ErrOwner, func(p *api.Plan, l *api.Layout) { l.Owner[0] = -1 }},
		{api.ErrArena, func(p *api.Plan, l *api.Layout) { l.Arena, l.Box = 0, 0 }},
		{api.ErrArena, func(p *api.Plan, l *api.Layout) { l.Arena = api.MaxArena + 1 }},
		{api.ErrArena, func(p *api.Plan, l *api.Layout) { l.Arena, l.Owner[1] = 1, 0 }},
		{api.ErrBoxes, func(p *api.Plan, l *api.Layout) { l.Box, l.Undo = 0, 0 }},
		{api.ErrBoxes, func(p *api.Plan, l *api.Layout) { l.Box = api.MaxBox + 1 }},
		{api.ErrUndos, func(p *api.Plan, l *api.Layout) { l.Undo = 0 }},
		{api.ErrUndos, func(p *api.Plan, l *api.Layout) { l.Undo = api.MaxUndo + 1 }},
	} {
		p, l := exchange(), two(9)
		c.turn(&p, &l)
		if code := worker.Valid(p, l); code != c.want {
			t.Fatalf("Valid is %d, not %d", code, c.want)
		}
		if team, code := warp.New(p, l); team != nil || code != c.want {
			t.Errorf("New is %v, %d, not %d", team, code, c.want)
		}
		want := api.Result{Kind: api.Rejected, Code: c.want}
		r, err := warp.Run(p, l, []int{0, 1, 2, 0, 1, 2})
		wantAnswer(t, "Run", r, err, want)
		for _, rounds := range []int{math.MinInt, -1, 0, 1, math.MaxInt} {
			r, err = warp.Fair(p, l, rounds)
			wantAnswer(t, "Fair", r, err, want)
		}
		if n := warp.Enough(p, l); n != 0 {
			t.Errorf("Enough is %d", n)
		}
	}
}

// 18.1: a team at the start has the first point's states, and the starts at those whose parts they go to: those from End on, too.
func TestStart(t *testing.T) {
	p := scenario(t, shop+"start done(1) to shop[2] at 900 start job(2) to shop[0] at 0 start job(5) to shop[1] at 200")
	for _, l := range []api.Layout{wide(1, 0, 0, 0, 0), wide(3, 2, 0, 2, 0), wide(4, 3, 3, 3, 3), wide(64, 63, 1, 0, 63)} {
		team := made(t, p, l)
		first, _ := seqrun.First(p)
		wantResult(t, "at the start", team.Result(), api.Result{Kind: api.Unfinished, Code: api.ErrUnfinished, States: first.States})
		for w := range l.Workers {
			var own []api.Event
			for _, e := range first.Pending {
				if l.Owner[e.Dst] == w {
					own = append(own, e)
				}
			}
			if v := view(t, team, w); !sameViews(v, api.Warp{Pending: own}) {
				t.Errorf("View(%d) is\n%s", w, tellView(v))
			}
		}
		wantLow(t, team, "0.0.0", false)
		if team.Over() {
			t.Error("it is over")
		}
	}
}

// 18.2, 18.5: numbers that are no worker's are refused, at any moment, and change nothing.
func TestNoWorker(t *testing.T) {
	team := made(t, exchange(), two(9))
	steps(t, team, 1, api.WarpRan)
	for _, w := range append(strange(), 2, 3, 64) {
		if did, code := team.Step(w); did != 0 || code != api.ErrPick {
			t.Errorf("Step(%d) is %d, %d", w, did, code)
		}
		if v, code := team.View(w); !sameViews(v, api.Warp{}) || code != api.ErrPick {
			t.Errorf("View(%d) is %d\n%s", w, code, tellView(v))
		}
	}
	wantView(t, team, 0, "0.0.0||14.1.1|0 0")
	wantView(t, team, 1, "|9.1.0||0 0")
	gathers(t, team, 0)
	wantLow(t, team, "0.0.0", true)
	team = made(t, exchange(end(0)), two(9))
	gathers(t, team, 0)
	if v, code := team.View(2); !sameViews(v, api.Warp{}) || code != api.ErrPick {
		t.Errorf("View(2) behind the end is %d\n%s", code, tellView(v))
	}
	wantView(t, team, 1, "9.1.0|||0 0")
}

// 18.7: picks that say nothing may stand anywhere, and a Gather's number is a Gather for just so many workers.
func TestPicks(t *testing.T) {
	plain := []int{1, 0, 1, 2, 0, 1, 1, 2, 0}
	want, _ := warp.Run(exchange(), two(9), plain)
	wantEnd(t, "ahead of the last Gather", want, api.Unfinished, api.ErrUnfinished, api.Key{}, "0.0.0 5.0.1 9.1.0 10.1.1", 2, 2)
	var mixed []int
	for _, pick := range plain {
		mixed = append(append(mixed, append(strange(), 3)...), pick)
	}
	r, err := warp.Run(exchange(), two(9), mixed)
	wantAnswer(t, "with picks that say nothing", r, err, want)
	r, err = warp.Run(exchange(), two(9), append(mixed, 2, 0, 1, 2, 9, -1))
	wantAnswer(t, "behind the end", r, err, seqrun.Run(exchange()))

	l := two(9)
	l.Workers = 3 // the worker 2 owns nothing, and 3 is a Gather
	r, _ = warp.Run(exchange(), l, plain)
	wantEnd(t, "three workers", r, api.Unfinished, api.ErrUnfinished, api.Key{}, "", 0, 0)
	r, _ = warp.Run(exchange(), l, []int{1, 0, 1, 3})
	wantEnd(t, "three workers and a Gather", r, api.Unfinished, api.ErrUnfinished, api.Key{}, "0.0.0 5.0.1", 1, 1)
}

// 18.7: Fair is Run with turns, ends with the run, and has no rounds below 1.
func TestFair(t *testing.T) {
	p, l := exchange(), two(9)
	over := false
	for rounds := -2; rounds < 12; rounds++ {
		want, wantErr := warp.Run(p, l, turnsOf(2, max(0, rounds)))
		r, err := warp.Fair(p, l, rounds)
		wantAnswer(t, rounds, r, err, want)
		if tellErr(err) != tellErr(wantErr) {
			t.Errorf("the error is %v", err)
		}
		over = r.Kind == api.Done
	}
	if !over {
		t.Error("it does not end")
	}
	for _, rounds := range []int{math.MinInt, math.MaxInt} {
		r, err := warp.Fair(p, l, rounds)
		want := seqrun.Run(p)
		if rounds < 0 {
			want, _ = warp.Run(p, l, nil)
		}
		wantAnswer(t, rounds, r, err, want)
	}
}
