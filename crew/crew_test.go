package crew_test

import (
	"errors"
	"fmt"
	"slices"
	"strings"
	"testing"

	"horizon/api"
	"horizon/crew"
	"horizon/kernel"
	"horizon/seqrun"
	"horizon/worker"
)

// 15.1: the chapter's example 1.
func TestExampleRun(t *testing.T) {
	r, err := crew.Run(clockwork(), pair())
	ended(t, "Q", r, err, api.Done, api.OK, 0, ticks(6), 3, 13)
	wantAnswer(t, "Q", r, err, seqrun.Run(clockwork()))
	if err != nil {
		t.Errorf("the error is %v", err)
	}
}

// 15.1, 15.2: the chapter's example 3.
func TestExampleFault(t *testing.T) {
	p := clockwork(look(6))
	r, err := crew.Run(p, pair())
	wantAnswer(t, "look 6", r, err, seqrun.Run(p))
	var at *api.KeyError
	if r.Kind != api.Fault || r.Code != api.FaultDelay || r.At != (api.Key{}) || len(r.Trace) != 0 {
		t.Errorf("the answer is\n%s", answer(r, err))
	}
	if !errors.As(err, &at) || at.Key != (api.Key{}) || at.Err != api.FaultDelay || !errors.Is(err, api.FaultDelay) {
		t.Errorf("the error is %s", tellErr(err))
	}
	r, err = crew.Until(p, pair(), 0)
	ended(t, "no window", r, err, api.Unfinished, api.ErrUnfinished, 0, "", 0, 10)
	r, err = crew.Until(p, pair(), 1)
	wantAnswer(t, "one window", r, err, seqrun.Run(p))
}

// 15.1, 15.2: the chapter's examples 4, 5 and 6.
func TestExampleBudget(t *testing.T) {
	r, err := crew.Run(clockwork(budget(3)), pair())
	ended(t, "budget 3", r, err, api.Cut, api.OK, 0, ticks(3), 2, 11)
	r, err = crew.Until(clockwork(budget(3)), pair(), 1)
	ended(t, "budget 3, 1", r, err, api.Unfinished, api.ErrUnfinished, 0, ticks(2), 1, 11)
	r, err = crew.Until(clockwork(budget(3)), pair(), 2)
	ended(t, "budget 3, 2", r, err, api.Cut, api.OK, 0, ticks(3), 2, 11)
	r, err = crew.Run(clockwork(budget(2)), pair())
	ended(t, "budget 2", r, err, api.Cut, api.OK, 0, ticks(2), 1, 11)
	r, err = crew.Until(clockwork(budget(2)), pair(), 1)
	ended(t, "budget 2, 1", r, err, api.Cut, api.OK, 0, ticks(2), 1, 11)
	for _, windows := range []int{-1, 0, 1, 9} {
		r, err = crew.Until(clockwork(end(0)), pair(), windows)
		ended(t, "end 0", r, err, api.Done, api.OK, 0, "", 0, 10)
		r, err = crew.Until(clockwork(budget(0)), pair(), windows)
		ended(t, "budget 0", r, err, api.Cut, api.OK, 0, "", 0, 10)
	}
	r, err = crew.Run(clockwork(end(0), budget(0)), pair())
	ended(t, "both", r, err, api.Done, api.OK, 0, "", 0, 10)
}

// 15.1: with no room for a window the run ends ahead of it, and its error tells the window.
func TestNoRoom(t *testing.T) {
	r, err := crew.Run(clockwork(), alone(1))
	ended(t, "undo 1", r, err, api.Resource, api.ErrNoRoom, 1, "", 0, 10)
	var lack *api.WindowError
	if !errors.As(err, &lack) || lack.Window != 1 || lack.Err != api.ErrNoRoom {
		t.Errorf("the error is %s", tellErr(err))
	}
	r, err = crew.Run(clockwork(), alone(2))
	ended(t, "undo 2", r, err, api.Done, api.OK, 0, ticks(6), 3, 13)
	small := pair()
	small.Arena, small.Box, small.Undo = 1, 1, 1
	r, err = crew.Run(clockwork(), small)
	ended(t, "room for one", r, err, api.Done, api.OK, 0, ticks(6), 3, 13)
}

// 15.1: each way to have no room, at the least room that is enough and at one less.
func TestRoomForAll(t *testing.T) {
	p := scenario(t, ring)
	p.Budget = 60
	for _, room := range []func(l *api.Layout) *int{
		func(l *api.Layout) *int { return &l.Arena },
		func(l *api.Layout) *int { return &l.Box },
		func(l *api.Layout) *int { return &l.Undo },
	} {
		l := wide(3, 0, 1, 2)
		least := room(&l)
		for *least = 1; ; *least++ {
			if j, _ := lackOf(p, l); j == 0 {
				break
			}
		}
		r, err := crew.Run(p, l)
		wantAnswer(t, l, r, err, seqrun.Run(p))
		for *least--; *least > 0; *least-- {
			j, _ := lackOf(p, l)
			r, err := crew.Run(p, l)
			wantAnswer(t, l, r, err, promised(p, j))
			if r.Kind != api.Resource {
				t.Errorf("%v: kind %d", l, r.Kind)
			}
		}
	}
}

// 15.1: where a lack of room and a fault come in one window, the lack counts, whoever has which.
func TestLackAheadOfFault(t *testing.T) {
	text := "look 4 end 50 kind good, bad type T { on good(x) { } on bad(x) { fail 1 } } place t[2] : T start bad(0) to t[%d] at 1 start good(0) to t[%d] at 2 start good(0) to t[%d] at 3"
	for _, who := range []int{0, 1} {
		p := scenario(t, fmt.Sprintf(text, who, 1-who, 1-who))
		l := pair()
		l.Undo = 1
		r, err := crew.Run(p, l)
		ended(t, who, r, err, api.Resource, api.ErrNoRoom, 1, "")
		l.Undo = 2
		r, err = crew.Run(p, l)
		wantAnswer(t, who, r, err, seqrun.Run(p))
		if r.Kind != api.Fault || r.Code != api.FaultUser {
			t.Errorf("%d: kind %d, code %d", who, r.Kind, r.Code)
		}
	}
}

// 15.1: of several failures in one window the least counts; of what others did what is ahead of it stays.
func TestLeastFailure(t *testing.T) {
	text := "look 9 end 50 budget %d kind good, bad type T { var n on good(x) { n = n + 1 } on bad(x) { fail 1 } } place t[3] : T start bad(0) to t[%d] at 5 start bad(0) to t[%d] at 4 start good(0) to t[%d] at 3 start good(0) to t[%d] at 4 start good(0) to t[%d] at 6"
	for _, budget := range []int{0, 1, 2, 3, 4, 9} {
		for a := range 3 {
			b, c := (a+1)%3, (a+2)%3
			p := scenario(t, fmt.Sprintf(text, budget, a, b, c, c, c))
			r, err := crew.Run(p, wide(3, 0, 1, 2))
			wantAnswer(t, fmt.Sprint(budget, a), r, err, seqrun.Run(p))
		}
	}
}

// notValid are plans that may not be run.
func notValid() []api.Plan {
	return []api.Plan{
		{},
		clockwork(look(0)),
		clockwork(budget(-1)),
		clockwork(budget(api.MaxBudget + 1)),
		clockwork(func(p *api.Plan) { p.Kinds = -1 }),
		clockwork(func(p *api.Plan) { p.Kinds = 2 }),
		clockwork(func(p *api.Plan) { p.Programs = nil }),
		clockwork(func(p *api.Plan) { p.Parts[1].Program = 1 }),
		clockwork(func(p *api.Plan) { p.Parts[1].Words = nil }),
		clockwork(func(p *api.Plan) { p.Starts[0].Dst = -1 }),
		clockwork(func(p *api.Plan) { p.Starts[1].Kind = 1 }),
		clockwork(func(p *api.Plan) { p.Fuel = 0 }),
		clockwork(func(p *api.Plan) { p.Fuel = api.MaxFuel + 1 }),
	}
}

// noLayouts are layouts that are none for clockwork.
func noLayouts() []api.Layout {
	var l []api.Layout
	for _, change := range []func(l *api.Layout){
		func(l *api.Layout) { *l = api.Layout{} },
		func(l *api.Layout) { l.Workers = 0 },
		func(l *api.Layout) { l.Workers = -3 },
		func(l *api.Layout) { l.Workers = api.MaxWorkers + 1 },
		func(l *api.Layout) { l.Workers = 1 },
		func(l *api.Layout) { l.Owner = nil },
		func(l *api.Layout) { l.Owner = []int{0, 1, 0} },
		func(l *api.Layout) { l.Owner[1] = -1 },
		func(l *api.Layout) { l.Arena = 0 },
		func(l *api.Layout) { l.Arena = api.MaxArena + 1 },
		func(l *api.Layout) { l.Arena, l.Owner = 1, []int{1, 1} },
		func(l *api.Layout) { l.Box = 0 },
		func(l *api.Layout) { l.Box = api.MaxBox + 1 },
		func(l *api.Layout) { l.Undo = -1 },
		func(l *api.Layout) { l.Undo = api.MaxUndo + 1 },
	} {
		x := pair()
		change(&x)
		l = append(l, x)
	}
	return l
}

// 15.1, 15.2: the chapter's example 7, and other plans and layouts that are not valid: the plan's error goes ahead.
func TestRejected(t *testing.T) {
	refused := func(p api.Plan, l api.Layout, code api.Errno) {
		t.Helper()
		if code == api.OK {
			t.Fatalf("%v is valid", l)
		}
		want := api.Result{Kind: api.Rejected, Code: code}
		r, err := crew.Run(p, l)
		wantAnswer(t, l, r, err, want)
		for _, windows := range []int{-1, 0, 1, 50} {
			r, err = crew.Until(p, l, windows)
			wantAnswer(t, l, r, err, want)
		}
	}
	refused(api.Plan{}, pair(), api.ErrLook)
	for _, p := range notValid() {
		refused(p, pair(), seqrun.Valid(p))
		refused(p, api.Layout{}, seqrun.Valid(p))
	}
	for _, l := range noLayouts() {
		refused(clockwork(), l, worker.Valid(clockwork(), l))
	}
}

// 15.1, 15.5: plans with hardly anything in them.
func TestNothing(t *testing.T) {
	p := api.Plan{Look: 1, Fuel: 1}
	for _, workers := range []int{1, 2, 64} {
		r, err := crew.Run(p, wide(workers))
		wantAnswer(t, workers, r, err, api.Result{Kind: api.Done})
	}
	q := clockwork(func(p *api.Plan) { p.Starts = nil })
	r, err := crew.Run(q, wide(64, 63, 63))
	wantAnswer(t, "no starts", r, err, seqrun.Run(q))
}

// 15.1: thrown plans and layouts, against DOC.md's 'A run in windows' read without workers, and against a run by turns.
func TestThrown(t *testing.T) {
	m := maker{chance: 151}
	for range 1500 {
		p := m.plan(t)
		l := m.layout(p)
		j, why := lackOf(p, l)
		r, err := crew.Run(p, l)
		wantAnswer(t, why, r, err, promised(p, j))
		if tellErr(err) != tellErr(kernel.Err(r)) {
			t.Fatalf("the error is %s", tellErr(err))
		}
		byTurns, _ := kernel.Fair(p, l, kernel.Enough(p, l))
		wantAnswer(t, why, r, err, byTurns)
	}
}

// 15.5: with room for all the result is that of the run in the order of keys, whatever the layout.
func TestAnyLayout(t *testing.T) {
	m := maker{chance: 155}
	for range 300 {
		p := m.plan(t)
		want := seqrun.Run(p)
		for _, workers := range []int{1, 2, 3, 7, 17, 64} {
			l := wide(workers)
			for range p.Parts {
				l.Owner = append(l.Owner, m.below(workers))
			}
			r, err := crew.Run(p, l)
			wantAnswer(t, workers, r, err, want)
		}
	}
}

// 15.5: as many windows as there can be, and as many workers.
func TestManyWindows(t *testing.T) {
	p := scenario(t, "look 1 end 18446744073709551615 budget 4096 kind k type T { var n on k(x) { n = n + 1 send k(0) to 63 - me after 1 } } place p[64] : T start k(1) to p[0] at 0")
	l, _ := kernel.Spread(p, 64, 1)
	r, err := crew.Run(p, l)
	wantAnswer(t, "all", r, err, seqrun.Run(p))
	r, err = crew.Until(p, l, 4095)
	wantAnswer(t, "all but one", r, err, stopped(p, 0, 4095))
	if r.Kind != api.Unfinished || len(r.Trace) != 4095 {
		t.Errorf("kind %d, %d events", r.Kind, len(r.Trace))
	}
	r, err = crew.Until(p, l, 4096)
	wantAnswer(t, "with the last", r, err, seqrun.Run(p))
}

// 15.5: all events in one window.
func TestOneWindow(t *testing.T) {
	p := scenario(t, "look 1000 end 900 kind k type T { var n on k(x) { n = n + x } } place p[8] : T "+strings.Repeat("start k(3) to p at 5 start k(4) to p at 700 ", 16))
	l, _ := kernel.Spread(p, 3, 3)
	for _, budget := range []int{0, 1, 2, 100, 254, 255, 256, 257} {
		p.Budget = budget
		r, err := crew.Run(p, l)
		wantAnswer(t, budget, r, err, seqrun.Run(p))
	}
}

// 15.1: DOC.md's examples 3, 4, 5 and 7: their ends, as far as they are told there.
func TestExamplesOfTheWhole(t *testing.T) {
	const fails = "look 1 end 50 kind k type T { var n = 3 on k(x) { n = n - 1 send k(60 / n) to me after 2 } } place t : T start k(0) to t at 10"
	const late = "look 10 end 18446744073709551615 kind k type T { var last on k(x) { last = now send k(x) to me after 10 } } place t : T start k(0) to t at 18446744073709551590"
	for _, x := range []struct {
		text         string
		budget       int
		workers, way int
		kind, events int
		told         string // the error
		words        []int64
	}{
		{shop, 300, 2, 1, api.Done, 52, "<nil>", []int64{1, 1, 3, 3}},
		{shop, 5, 4, 2, api.Cut, 5, "<nil>", []int64{0, 0, 0, 1}},
		{fails, 1000, 3, 3, api.Fault, 2, "14.0.2: error 201", []int64{1}},
		{late, 1000, 2, 4, api.Fault, 2, "18446744073709551610.0.2: error 206", []int64{-16}},
	} {
		p := scenario(t, x.text)
		p.Budget = x.budget
		l, _ := kernel.Spread(p, x.workers, x.way)
		r, err := crew.Run(p, l)
		wantAnswer(t, x.text, r, err, seqrun.Run(p))
		if r.Kind != x.kind || len(r.Trace) != x.events || fmt.Sprint(err) != x.told || !slices.Equal(r.States[0].Words, x.words) {
			t.Errorf("%s is answered by\n%s", x.text, answer(r, err))
		}
	}
}
