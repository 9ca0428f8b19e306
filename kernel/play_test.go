package kernel_test

import (
	"fmt"
	"math"
	"slices"
	"testing"

	"horizon/api"
	"horizon/kernel"
	"horizon/worker"
)

// refused are plans and layouts that worker.Valid refuses, each for its reason, and several reasons at once.
func refused() []struct {
	plan   api.Plan
	layout api.Layout
} {
	type pair = struct {
		plan   api.Plan
		layout api.Layout
	}
	with := func(change func(l *api.Layout)) pair {
		l := two(4)
		change(&l)
		return pair{adds(), l}
	}
	return []pair{
		{},
		{adds(), api.Layout{}},
		{adds(look(0)), api.Layout{}},
		{adds(look(0)), two(4)},
		{adds(budget(-1)), two(4)},
		{adds(budget(api.MaxBudget + 1)), two(4)},
		{adds(func(p *api.Plan) { p.Fuel = 0 }), two(4)},
		{adds(func(p *api.Plan) { p.Kinds = -1 }), two(4)},
		{adds(func(p *api.Plan) { p.Programs[0].Code[4].Op = -7 }), two(4)},
		{adds(func(p *api.Plan) { p.Parts[1].Program = 1 }), two(4)},
		{adds(func(p *api.Plan) { p.Starts[1].Dst = 2 }), two(4)},
		with(func(l *api.Layout) { l.Workers = 0 }),
		with(func(l *api.Layout) { l.Workers = math.MinInt }),
		with(func(l *api.Layout) { l.Workers = api.MaxWorkers + 1 }),
		with(func(l *api.Layout) { l.Workers = math.MaxInt }),
		with(func(l *api.Layout) { l.Workers = 1 }),
		with(func(l *api.Layout) { l.Owner = []int{0} }),
		with(func(l *api.Layout) { l.Owner = []int{0, 1, 0} }),
		with(func(l *api.Layout) { l.Owner[0] = -1 }),
		with(func(l *api.Layout) { l.Arena, l.Box = 0, 0 }),
		with(func(l *api.Layout) { l.Arena = api.MaxArena + 1 }),
		with(func(l *api.Layout) { l.Arena, l.Owner = 1, []int{1, 1} }),
		with(func(l *api.Layout) { l.Box, l.Undo = 0, 0 }),
		with(func(l *api.Layout) { l.Undo = 0 }),
	}
}

// 14.2, 14.6, 14.8: what worker.Valid refuses is refused with that error, whatever the picks are; nothing is seen.
func TestRefused(t *testing.T) {
	codes := map[api.Errno]bool{}
	for i, x := range refused() {
		code := worker.Valid(x.plan, x.layout)
		if code == api.OK {
			t.Fatalf("%d is valid", i)
		}
		codes[code] = true
		want := api.Result{Kind: api.Rejected, Code: code}
		for _, n := range []int{0, 1, 99} {
			r, err := kernel.Run(x.plan, x.layout, zeros(n))
			wantAnswer(t, i, r, err, want)
			r, err = kernel.Fair(x.plan, x.layout, n)
			wantAnswer(t, i, r, err, want)
			r, err = kernel.Watch(x.plan, x.layout, zeros(n), nil)
			wantAnswer(t, i, r, err, want)
			r, err = kernel.Watch(x.plan, x.layout, zeros(n), func(int, api.View) bool {
				t.Errorf("%d: something is seen", i)
				return true
			})
			wantAnswer(t, i, r, err, want)
			if r.States != nil || r.Trace != nil {
				t.Errorf("%d: there are lists", i)
			}
		}
		if n := kernel.Enough(x.plan, x.layout); n != 0 {
			t.Errorf("%d: Enough is %d", i, n)
		}
		if n, got := kernel.Room(x.plan, x.layout); n != 0 || got != code {
			t.Errorf("%d: Room is %d, %d", i, n, got)
		}
	}
	if len(codes) != 12 {
		t.Errorf("%d errors were seen: %v", len(codes), codes)
	}
}

// 14.2, 14.3: behind each of its picks a run is what a team is that was stepped by them; so it is when each end is reached.
func TestRunByHand(t *testing.T) {
	m := maker{chance: 143}
	kinds := map[int]int{}
	for range 60 {
		p := m.plan(t)
		l := m.layout(p)
		picks := m.whole(t, p, l)
		team := made(t, p, l)
		for n := range len(picks) + 1 {
			if n > 0 {
				team.Step(picks[n-1])
			}
			if n%7 > 0 && n < len(picks)-3 {
				continue
			}
			r, err := kernel.Run(p, l, picks[:n])
			wantAnswer(t, n, r, err, team.Result())
			kinds[r.Kind]++
		}
	}
	for kind := api.Done; kind <= api.Unfinished; kind++ {
		if kinds[kind] == 0 {
			t.Errorf("no run was of kind %d", kind)
		}
	}
}

// 14.3: a worker that has finished is passed over while others have not; the end comes with the last one's last step.
func TestRunFinishedWorker(t *testing.T) {
	// With nothing to spend the run is over when all have agreed on that.
	p := adds(budget(0))
	team := made(t, p, two(4))
	var picks []int
	for w := 0; !team.Over(); w = 1 - w {
		if _, code := team.Step(w); code == api.OK {
			picks = append(picks, w)
		}
	}
	r, err := kernel.Run(p, two(4), picks)
	ended(t, "all picks", r, err, api.Cut, api.OK, 0, "", 0, 0)
	last := len(picks) - 1
	r, err = kernel.Run(p, two(4), picks[:last])
	ended(t, "all but one", r, err, api.Unfinished, api.ErrUnfinished, 0, "", 0, 0)
	other := 1 - picks[last]
	if v := viewBehind(t, p, two(4), picks[:last], other); v.Phase != api.PhOver {
		t.Fatalf("worker %d has not finished", other)
	}
	for _, n := range []int{0, 1, 9} {
		more := append(slices.Repeat([]int{other}, n), picks[last])
		r, err = kernel.Run(p, two(4), slices.Concat(picks[:last], more))
		ended(t, n, r, err, api.Cut, api.OK, 0, "", 0, 0)
		r, err = kernel.Run(p, two(4), slices.Concat(picks[:last], more[:n]))
		ended(t, n, r, err, api.Unfinished, api.ErrUnfinished, 0, "", 0, 0)
	}
}

// viewBehind is what can be seen of a worker behind picks.
func viewBehind(t *testing.T, p api.Plan, l api.Layout, picks []int, w int) api.View {
	t.Helper()
	team := made(t, p, l)
	for _, pick := range picks {
		team.Step(pick)
	}
	v, _ := team.View(w)
	return v
}

// 14.3: picks of nobody are no steps.
func TestRunNobody(t *testing.T) {
	for workers := 1; workers <= 3; workers++ {
		l := wide(workers, 0, 0)
		r, err := kernel.Run(adds(), l, append(strange(), workers, workers+1))
		ended(t, workers, r, err, api.Unfinished, api.ErrUnfinished, 0, "", 0, 0)
	}
	// One who alone is picked waits for the other.
	for _, w := range []int{0, 1} {
		r, err := kernel.Run(adds(), two(4), slices.Repeat([]int{w}, 10000))
		ended(t, w, r, err, api.Unfinished, api.ErrUnfinished, 0, "", 0, 0)
	}
}

// 14.4: Fair is Run with all workers by turns, for every number of rounds, up to the end and beyond.
func TestFairIsRun(t *testing.T) {
	m := maker{chance: 144}
	differ := 0
	for range 30 {
		p := m.plan(t)
		l := m.layout(p)
		for rounds, done := 0, false; !done; rounds++ {
			picks := turnsOf(l.Workers, rounds)
			want, _ := kernel.Run(p, l, picks)
			r, err := kernel.Fair(p, l, rounds)
			wantAnswer(t, rounds, r, err, want)
			done = r.Kind != api.Unfinished
			slices.Reverse(picks)
			if back, _ := kernel.Run(p, l, picks); tell(back) != tell(want) {
				differ++
			}
		}
	}
	if differ < 20 {
		t.Errorf("only %d times it could be seen who goes first", differ)
	}
}

// 14.4: numbers of rounds beyond all bounds: the run ends as it does with enough of them; below 1 it does not begin.
func TestFairRounds(t *testing.T) {
	m := maker{chance: 1440}
	for range 100 {
		p := m.plan(t)
		l := m.layout(p)
		want, _ := kernel.Fair(p, l, kernel.Enough(p, l))
		for _, rounds := range []int{math.MaxInt, math.MaxInt - 1, math.MaxInt/2 + 1, math.MaxInt/3 + 1, 1 << 32} {
			r, err := kernel.Fair(p, l, rounds)
			wantAnswer(t, rounds, r, err, want)
		}
		start, _ := kernel.Run(p, l, nil)
		for _, rounds := range []int{0, -1, -1 << 32, math.MinInt} {
			r, err := kernel.Fair(p, l, rounds)
			wantAnswer(t, rounds, r, err, start)
		}
	}
}

// glimpse is what see was called with.
type glimpse struct {
	place int
	view  string
}

// watched is the answer of Watch, and what was seen; it is stopped at the stop-th sight, from 1 on.
func watched(p api.Plan, l api.Layout, picks []int, stop int) (api.Result, error, []glimpse) {
	var seen []glimpse
	r, err := kernel.Watch(p, l, picks, func(pick int, v api.View) bool {
		seen = append(seen, glimpse{pick, tellView(v)})
		return len(seen) != stop
	})
	return r, err, seen
}

// byHand is what can be seen behind each step of picks, and the result behind each.
func byHand(t *testing.T, p api.Plan, l api.Layout, picks []int) ([]glimpse, []api.Result) {
	t.Helper()
	team := made(t, p, l)
	var seen []glimpse
	var results []api.Result
	for place, w := range picks {
		if _, code := team.Step(w); code == api.OK {
			v, _ := team.View(w)
			seen = append(seen, glimpse{place, tellView(v)})
			results = append(results, team.Result())
		}
	}
	return seen, results
}

// 14.5: who watches sees each step and no other pick, by its place in the list, and each worker as it is behind its own step; who sees enough at any of them stops the run there.
func TestWatchByHand(t *testing.T) {
	m := maker{chance: 145}
	for range 25 {
		p := m.plan(t)
		l := m.layout(p)
		picks := append(m.whole(t, p, l), m.picks(l.Workers, 20)...)
		want, results := byHand(t, p, l, picks)
		r, err, seen := watched(p, l, picks, 0)
		if !slices.Equal(seen, want) {
			t.Fatalf("seen %d steps, not %d, or others", len(seen), len(want))
		}
		run, _ := kernel.Run(p, l, picks)
		wantAnswer(t, "to the end", r, err, run)
		for range 20 {
			stop := 1 + m.below(len(want))
			r, err, seen := watched(p, l, picks, stop)
			wantAnswer(t, fmt.Sprint("stopped at ", stop), r, err, results[stop-1])
			if !slices.Equal(seen, want[:stop]) {
				t.Fatalf("stopped at %d: seen %d steps", stop, len(seen))
			}
		}
	}
}

// 14.5: Watch with nobody who sees is Run.
func TestWatchNil(t *testing.T) {
	m := maker{chance: 1450}
	for range 60 {
		p := m.plan(t)
		l := m.layout(p)
		picks := m.whole(t, p, l)
		for _, n := range []int{0, len(picks) / 2, len(picks) - 1, len(picks)} {
			want, _ := kernel.Run(p, l, picks[:n])
			r, err := kernel.Watch(p, l, picks[:n], nil)
			wantAnswer(t, n, r, err, want)
		}
	}
}

// 14.5: the last step of all is seen, too, and nothing behind it; to stop at it changes nothing.
func TestWatchLastStep(t *testing.T) {
	for _, stop := range []int{0, 14} {
		r, err, seen := watched(adds(), one(4), zeros(50), stop)
		ended(t, stop, r, err, api.Done, api.OK, 0, bothAdds, 5, 7)
		if len(seen) != 14 || seen[13].place != 13 {
			t.Errorf("%d steps are seen", len(seen))
		}
	}
	r, err, seen := watched(adds(), one(4), zeros(50), 13)
	ended(t, 13, r, err, api.Unfinished, api.ErrUnfinished, 0, firstAdd, 5, 0)
	if len(seen) != 13 {
		t.Errorf("%d steps are seen", len(seen))
	}
	if _, _, seen = watched(adds(), one(4), strange(), 1); seen != nil {
		t.Errorf("picks of nobody are seen: %v", seen)
	}
}
