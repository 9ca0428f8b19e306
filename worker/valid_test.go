package worker_test

import (
	"testing"

	"horizon/api"
	"horizon/seqrun"
	"horizon/worker"
)

// wantValid holds Valid, and what New refuses, against the chapter's.
func wantValid(t *testing.T, what any, p api.Plan, l api.Layout, want api.Errno) {
	t.Helper()
	if got := worker.Valid(p, l); got != want {
		t.Errorf("%v: Valid is %d, not %d", what, got, want)
	}
	if team, code := worker.New(p, l); code != want || (team == nil) != (want != api.OK) {
		t.Errorf("%v: New is %v, %d, not %d", what, team, code, want)
	}
}

// 13.1, 13.2: each number of a layout at its edges and beyond them.
func TestValidEdges(t *testing.T) {
	for _, c := range []struct {
		name   string
		change func(l *api.Layout)
		want   api.Errno
	}{
		{"as it is", func(l *api.Layout) {}, api.OK},
		{"no worker", func(l *api.Layout) { l.Workers = 0 }, api.ErrWorkers},
		{"less than none", func(l *api.Layout) { l.Workers = -1 }, api.ErrWorkers},
		{"least of all", func(l *api.Layout) { l.Workers = -1 << 63 }, api.ErrWorkers},
		{"most workers", func(l *api.Layout) { l.Workers = 64 }, api.OK},
		{"one more", func(l *api.Layout) { l.Workers = 65 }, api.ErrWorkers},
		{"most of all", func(l *api.Layout) { l.Workers = 1<<63 - 1 }, api.ErrWorkers},
		{"no owners", func(l *api.Layout) { l.Owner = nil }, api.ErrOwner},
		{"one owner too few", func(l *api.Layout) { l.Owner = []int{0} }, api.ErrOwner},
		{"one owner too many", func(l *api.Layout) { l.Owner = []int{0, 1, 0} }, api.ErrOwner},
		{"an owner below 0", func(l *api.Layout) { l.Owner[1] = -1 }, api.ErrOwner},
		{"an owner that is not there", func(l *api.Layout) { l.Owner[0] = 2 }, api.ErrOwner},
		{"the last owner", func(l *api.Layout) { l.Owner[0] = 1 }, api.OK},
		{"an owner of no part", func(l *api.Layout) { l.Owner[1] = 0 }, api.OK},
		{"the last of all owners", func(l *api.Layout) { l.Workers, l.Owner[0] = 64, 63 }, api.OK},
		{"no arena", func(l *api.Layout) { l.Arena = 0 }, api.ErrArena},
		{"less than no arena", func(l *api.Layout) { l.Arena = -5 }, api.ErrArena},
		{"the largest arena", func(l *api.Layout) { l.Arena = 8192 }, api.OK},
		{"too large an arena", func(l *api.Layout) { l.Arena = 8193 }, api.ErrArena},
		{"an arena for one start each", func(l *api.Layout) { l.Arena = 1 }, api.OK},
		{"an arena for one of two starts", func(l *api.Layout) { l.Owner[0], l.Arena = 1, 1 }, api.ErrArena},
		{"an arena for both starts", func(l *api.Layout) { l.Owner[0], l.Arena = 1, 2 }, api.OK},
		{"no box", func(l *api.Layout) { l.Box = 0 }, api.ErrBoxes},
		{"less than no box", func(l *api.Layout) { l.Box = -1 }, api.ErrBoxes},
		{"the least box", func(l *api.Layout) { l.Box = 1 }, api.OK},
		{"the largest box", func(l *api.Layout) { l.Box = 1024 }, api.OK},
		{"too large a box", func(l *api.Layout) { l.Box = 1025 }, api.ErrBoxes},
		{"no undo log", func(l *api.Layout) { l.Undo = 0 }, api.ErrUndos},
		{"less than no undo log", func(l *api.Layout) { l.Undo = -1 << 63 }, api.ErrUndos},
		{"the least undo log", func(l *api.Layout) { l.Undo = 1 }, api.OK},
		{"the largest undo log", func(l *api.Layout) { l.Undo = 4096 }, api.OK},
		{"too large an undo log", func(l *api.Layout) { l.Undo = 4097 }, api.ErrUndos},
	} {
		l := two()
		c.change(&l)
		wantValid(t, c.name, adds(2, 9), l, c.want)
	}
}

// 13.1: of several errors the one that the chapter names first.
func TestValidOrder(t *testing.T) {
	p, l := adds(2, 9), two()
	wantValid(t, "nothing wrong", p, l, api.OK)
	for _, c := range []struct {
		spoil func()
		want  api.Errno
	}{
		{func() { l.Undo = 0 }, api.ErrUndos},
		{func() { l.Box = 9999 }, api.ErrBoxes},
		{func() { l.Arena = -1 }, api.ErrArena},
		{func() { l.Owner[1] = 7 }, api.ErrOwner},
		{func() { l.Workers = 0 }, api.ErrWorkers},
		{func() { p.Fuel = 0 }, api.ErrFuel},
		{func() { p.Look = 0 }, api.ErrLook},
		{func() { p.Starts[1].Dst = 2 }, api.ErrStarts},
		{func() { p.Parts[0].Program = 1 }, api.ErrParts},
		{func() { p.Kinds = 33 }, api.ErrKinds},
	} {
		c.spoil()
		wantValid(t, "all up to here", p, l, c.want)
	}
	// More starts than Arena are ErrArena, not what is behind it, and not ahead of the owners.
	q, m := adds(2, 9), tight(layout(1, 0, 0), 1, 0, 0)
	wantValid(t, "starts", q, m, api.ErrArena)
	m.Owner = []int{0, 1}
	wantValid(t, "owners", q, m, api.ErrOwner)
}

// 13.1: each error of a plan is Valid's, whatever the layout.
func TestValidPlan(t *testing.T) {
	for _, spoil := range []func(p *api.Plan){
		func(p *api.Plan) { p.Kinds = -1 },
		func(p *api.Plan) { p.Kinds = 2 },
		func(p *api.Plan) { p.Programs = nil },
		func(p *api.Plan) { p.Parts[1].Words = nil },
		func(p *api.Plan) { p.Starts[0].Kind = 1 },
		func(p *api.Plan) { p.Look = 0 },
		func(p *api.Plan) { p.Budget = -1 },
		func(p *api.Plan) { p.Budget = 4097 },
		func(p *api.Plan) { p.Fuel = 4097 },
	} {
		p := adds(2, 9)
		spoil(&p)
		want := seqrun.Valid(p)
		if want == api.OK {
			t.Fatal("nothing is spoilt")
		}
		wantValid(t, "good layout", p, two(), want)
		wantValid(t, "no layout", p, api.Layout{}, want)
	}
	wantValid(t, "nothing", api.Plan{}, api.Layout{}, api.ErrLook)
}

// 13.1: plans and layouts of nothing, and as large as can be.
func TestValidSizes(t *testing.T) {
	bare := api.Plan{Look: 1, Fuel: 1}
	wantValid(t, "no parts", bare, api.Layout{Workers: 1, Arena: 1, Box: 1, Undo: 1}, api.OK)
	wantValid(t, "no parts", bare, api.Layout{Workers: 64, Owner: []int{}, Arena: 1, Box: 1, Undo: 1}, api.OK)
	wantValid(t, "no parts, an owner", bare, api.Layout{Workers: 1, Owner: []int{0}, Arena: 1, Box: 1, Undo: 1}, api.ErrOwner)
	wantValid(t, "no parts, no arena", bare, api.Layout{Workers: 1, Arena: 0, Box: 1, Undo: 1}, api.ErrArena)
	p := adds(2, 9)
	p.Starts = nil
	wantValid(t, "no starts, no arena", p, tight(layout(2, 0, 1), 0, 1, 1), api.ErrArena)
	wantValid(t, "no starts, the least arena", p, tight(layout(2, 0, 1), 1, 1, 1), api.OK)
	for i := range api.MaxStarts {
		p.Starts = append(p.Starts, api.Start{Time: uint64(i), Dst: i % 2})
	}
	wantValid(t, "all starts to one worker", p, tight(layout(2, 1, 1), 256, 1, 1), api.OK)
	wantValid(t, "all starts to one worker", p, tight(layout(2, 1, 1), 255, 1, 1), api.ErrArena)
	wantValid(t, "half of them each", p, tight(layout(2, 1, 0), 128, 1, 1), api.OK)
	wantValid(t, "half of them each", p, tight(layout(2, 1, 0), 127, 1, 1), api.ErrArena)
	// Starts from End on are pending, too.
	p.End = 0
	wantValid(t, "starts behind the end", p, tight(layout(2, 1, 0), 127, 1, 1), api.ErrArena)
}

// 13.2: a team at the start: each worker has the starts to its own parts, as events with the senders and numbers of the run in the order of keys.
func TestNew(t *testing.T) {
	p := adds(2, 9)
	p.Parts = append(p.Parts, api.Part{Words: []int64{8}})
	p.Starts = []api.Start{{Time: 7, Dst: 2, Data: 1}, {Time: 7, Dst: 0, Data: 2}, {Time: 3, Dst: 2, Data: 3}, {Time: 3, Dst: 1, Data: 4}, {Time: 50, Dst: 0, Data: 5}}
	p.Seed = 77
	team := made(t, p, layout(3, 2, 0, 2))
	wantView(t, team, 0, api.PhDrain, 1, 0, 0, "3.1.0>1:0=4", "", "")
	wantView(t, team, 1, api.PhDrain, 1, 0, 0, "", "", "")
	wantView(t, team, 2, api.PhDrain, 1, 0, 0, "3.2.1>2:0=3 7.0.0>0:0=2 7.2.0>2:0=1 50.0.1>0:0=5", "", "")
	for w := range 3 {
		wantCode(t, team, w, api.OK, api.Key{})
	}
	first, _ := seqrun.First(p)
	if !sameStates(team.States(), first.States) {
		t.Errorf("States is %s, not %s", tellStates(team.States()), tellStates(first.States))
	}
	wantResult(t, "at the start", team.Result(), api.Result{Kind: api.Unfinished, Code: api.ErrUnfinished, States: first.States})
	if team.Over() {
		t.Error("over at the start")
	}
}

// 13.3, 13.4: workers that are not there.
func TestNoSuchWorker(t *testing.T) {
	for _, l := range []api.Layout{one(), two(), layout(64, 5, 63)} {
		team := made(t, adds(2, 9), l)
		for _, w := range []int{-1, l.Workers, l.Workers + 1, 64, 1 << 40, -1 << 63, 1<<63 - 1} {
			if phase, code := team.Step(w); phase != 0 || code != api.ErrPick {
				t.Errorf("Step(%d) is %d, %d", w, phase, code)
			}
			if v, code := team.View(w); !sameViews(v, api.View{}) || code != api.ErrPick {
				t.Errorf("View(%d) is %v, %d", w, v, code)
			}
		}
		sameTeams(t, team, made(t, adds(2, 9), l), l.Workers)
	}
}
