package worker_test

import (
	"slices"
	"testing"

	"horizon/api"
	"horizon/seqrun"
	"horizon/stamp"
	"horizon/worker"
)

// picker says whose step is next. Each gives every worker its turn again and again.
type picker func(i int) int

// pickers are by turns forwards and backwards; thrown; and one worker for many steps, while the others get one each now and then.
func pickers(c *chance, workers int) []picker {
	hog, since := 0, 0
	return []picker{
		func(i int) int { return i % workers },
		func(i int) int { return workers - 1 - i%workers },
		func(i int) int { return c.below(workers) },
		func(i int) int {
			if since++; since > 30 {
				hog, since = c.below(workers), 0
			}
			if c.below(4) > 0 {
				return hog
			}
			return c.below(workers)
		},
	}
}

// alike makes a step of a team and of the slow one, and holds the answers, and the View of who was stepped, against each other.
func alike(t *testing.T, team *worker.Team, other *slow, w int) {
	t.Helper()
	phase, code := team.Step(w)
	if p, c := other.Step(w); phase != p || code != c {
		t.Fatalf("Step(%d) is %d, %d, not %d, %d", w, phase, code, p, c)
	}
	viewsAlike(t, team, other, w)
}

func viewsAlike(t *testing.T, team *worker.Team, other *slow, w int) {
	t.Helper()
	a, code := team.View(w)
	b, c := other.View(w)
	if code != c || !sameViews(a, b) {
		t.Fatalf("View(%d) is %d,\n%s\nnot %d,\n%s", w, code, tellView(a), c, tellView(b))
	}
}

// allAlike holds all that can be seen of two teams against each other.
func allAlike(t *testing.T, team *worker.Team, other *slow) {
	t.Helper()
	for w := -1; w <= other.layout.Workers; w++ {
		viewsAlike(t, team, other, w)
	}
	if a, b := team.States(), other.States(); !sameStates(a, b) {
		t.Fatalf("States is\n%s\nnot\n%s", tellStates(a), tellStates(b))
	}
	wantResult(t, "between two steps", team.Result(), other.Result())
	if team.Over() != other.Over() {
		t.Fatalf("Over is %v", team.Over())
	}
}

// 13.2 to 13.6: thrown plans under thrown layouts, step by step in many orders, as the words read slowly; steps that are refused change nothing, and a team that is over stays so.
func TestThrownSteps(t *testing.T) {
	m := maker{chance: 134}
	for i := range 900 {
		p := m.plan(t)
		l := m.layout(p)
		team, other := made(t, p, l), newSlow(p, l)
		allAlike(t, team, other)
		next := pickers(&m.chance, l.Workers)[i%4]
		for at := 0; !other.Over(); at++ {
			alike(t, team, other, next(at))
			if at%5 == 0 {
				allAlike(t, team, other)
			}
			if at%50 == 7 {
				alike(t, team, other, pick(&m.chance, []int{-1, l.Workers, l.Workers + m.below(100), -1 << 63}))
				allAlike(t, team, other)
			}
		}
		for w := -1; w <= l.Workers; w++ {
			alike(t, team, other, w)
			allAlike(t, team, other)
		}
	}
}

// 13.7: any order of steps ends alike: as a run in windows read without steps, and as the run in the order of keys.
func TestAnyOrder(t *testing.T) {
	m := maker{chance: 137}
	for range 1500 {
		p := m.plan(t)
		l := m.layout(p)
		want, _ := inWindows(p, l)
		wantResult(t, "a run in windows", want, promised(p, want.Window))
		for _, next := range pickers(&m.chance, l.Workers) {
			team := made(t, p, l)
			for at := 0; !team.Over(); at++ {
				team.Step(next(at))
			}
			wantResult(t, "a team", team.Result(), want)
			if !sameStates(team.States(), want.States) {
				t.Fatalf("States is\n%s\nnot\n%s", tellStates(team.States()), tellStates(want.States))
			}
		}
	}
}

// 13.7: with room for all, the layout does not matter either.
func TestAnyLayout(t *testing.T) {
	m := maker{chance: 1370}
	for range 300 {
		p := m.plan(t)
		want := seqrun.Run(p)
		for _, workers := range []int{1, 2, 3, 7, 16, 33, 64} {
			l := layout(workers)
			for range p.Parts {
				l.Owner = append(l.Owner, m.below(workers))
			}
			wantResult(t, workers, toEnd(t, made(t, p, l), workers), want)
		}
	}
}

// 13.6, 13.7: the Trace that Result tells is at every moment what the first windows of the run in the order of keys have done, never fewer than before; and so are the states.
func TestResultOnTheWay(t *testing.T) {
	m := maker{chance: 136}
	seen := 0
	for i := range 500 {
		p := m.plan(t)
		l := m.layout(p)
		whole, behind := seqrun.Run(p).Trace, map[int]bool{0: true}
		n := 0
		for _, w := range seqrun.Windows(p) {
			n += w.Events
			behind[n] = true
		}
		team := made(t, p, l)
		next := pickers(&m.chance, l.Workers)[i%4]
		last := 0
		for at := 0; !team.Over(); at++ {
			r := team.Result()
			if r.Kind != api.Unfinished || r.Code != api.ErrUnfinished || r.At != (api.Key{}) || r.Window != 0 || len(r.Trace) < last || !behind[len(r.Trace)] || !slices.Equal(r.Trace, whole[:len(r.Trace)]) {
				t.Fatalf("behind %d events Result is\n%s", last, tellResult(r))
			}
			if len(r.Trace) != last || at == 0 {
				seen++
				if want := seqrun.Prefix(p, len(r.Trace)); !sameStates(r.States, want.States) {
					t.Fatalf("Result is\n%s\nnot\n%s", tellResult(r), tellResult(want))
				}
			}
			last = len(r.Trace)
			team.Step(next(at))
		}
	}
	if seen < 1500 {
		t.Errorf("only %d windows were seen", seen)
	}
}

// asksNobody tells whether a phase is one of those whose steps may change places.
func asksNobody(phase int) bool {
	return phase == api.PhDrain || phase == api.PhWork || phase == api.PhShow || phase == api.PhChoose
}

// sameTeams holds all that can be seen of two teams against each other.
func sameTeams(t *testing.T, a, b *worker.Team, workers int) {
	t.Helper()
	for w := range workers {
		if x, y := view(t, a, w), view(t, b, w); !sameViews(x, y) {
			t.Fatalf("worker %d is seen as\n%s\nand as\n%s", w, tellView(x), tellView(y))
		}
	}
	if !sameStates(a.States(), b.States()) {
		t.Fatalf("States is\n%s\nand\n%s", tellStates(a.States()), tellStates(b.States()))
	}
	wantResult(t, "the other order", a.Result(), b.Result())
}

// 13.7: steps of two workers in phases that ask nobody may change places: all that can be seen is the same behind them, and to the end.
func TestStepsChangePlaces(t *testing.T) {
	m := maker{chance: 1377}
	swapped := map[int]int{}
	for i := range 1200 {
		p := m.plan(t)
		l := m.layout(p)
		a, b := made(t, p, l), made(t, p, l)
		next := pickers(&m.chance, l.Workers)[i%4]
		for at := 0; !a.Over(); at++ {
			v, w := next(at), m.below(l.Workers)
			phase := view(t, a, v).Phase
			if v == w || !asksNobody(phase) || !asksNobody(view(t, a, w).Phase) {
				a.Step(v)
				b.Step(v)
				continue
			}
			swapped[phase]++
			a.Step(v)
			a.Step(w)
			b.Step(w)
			b.Step(v)
			sameTeams(t, a, b, l.Workers)
		}
		sameTeams(t, a, b, l.Workers)
	}
	for _, phase := range []int{api.PhDrain, api.PhWork, api.PhShow, api.PhChoose} {
		if swapped[phase] < 20 {
			t.Errorf("only %d steps in phase %d changed places", swapped[phase], phase)
		}
	}
}

// watcher knows what holds of a plan's run at every moment.
type watcher struct {
	plan   api.Plan
	layout api.Layout
	whole  []api.Event
	behind map[int]bool // how many events whole windows have
	full   int          // how often all were in PhLow
}

func newWatcher(p api.Plan, l api.Layout) *watcher {
	x := &watcher{plan: p, layout: l, whole: seqrun.Run(p).Trace, behind: map[int]bool{0: true}}
	n := 0
	for _, w := range seqrun.Windows(p) {
		n += w.Events
		x.behind[n] = true
	}
	return x
}

// worker holds a worker's View against 13.8.
func (x *watcher) worker(t *testing.T, w int, v api.View) {
	t.Helper()
	own := func(e api.Event) bool { return x.layout.Owner[e.Dst] == w }
	var trace []api.Event
	for _, e := range x.whole[:v.Total] {
		if own(e) {
			trace = append(trace, e)
		}
	}
	ok := x.behind[v.Total] && slices.Equal(v.Trace, trace)
	ok = ok && len(v.Pending) <= x.layout.Arena && stamp.Rising(v.Pending)
	ok = ok && len(v.Log) <= x.layout.Undo && len(v.Log) <= x.plan.Budget-v.Total && stamp.Rising(v.Log)
	for _, e := range v.Log {
		ok = ok && own(e) && e.Key.Time < v.Bound
	}
	for _, e := range v.Pending {
		ok = ok && own(e)
	}
	if !ok {
		t.Fatalf("worker %d is seen as\n%s", w, tellView(v))
	}
}

// team holds all Views against 13.8.
func (x *watcher) team(t *testing.T, team *worker.Team) {
	t.Helper()
	var all, pending, executed []api.Event
	least, greatest := 1<<62, 0
	finished, low := false, true
	for w := range x.layout.Workers {
		v := view(t, team, w)
		x.worker(t, w, v)
		least, greatest = min(least, v.Window), max(greatest, v.Window)
		finished = finished || v.Phase == api.PhOver
		low = low && v.Phase == api.PhLow && v.Code == api.OK
		pending = append(pending, v.Pending...)
		executed = slices.Concat(executed, v.Trace, v.Log)
	}
	if greatest-least > 1 {
		t.Fatalf("Windows from %d to %d", least, greatest)
	}
	all = stamp.Merge(pending, executed)
	if !finished && !stamp.Rising(all) {
		t.Fatalf("an event is there twice: %s", texts(all))
	}
	if low {
		x.full++
		x.nothingLost(t, stamp.Order(pending), stamp.Order(executed))
	}
}

// nothingLost asks the run in the order of keys what is pending behind the events that were executed.
func (x *watcher) nothingLost(t *testing.T, pending, executed []api.Event) {
	t.Helper()
	first, _ := seqrun.First(x.plan)
	sim, code := seqrun.Open(x.plan, first)
	if code != api.OK {
		t.Fatalf("Open is %d", code)
	}
	for range executed {
		sim.Step()
	}
	at := sim.Point()
	if !slices.Equal(at.Trace, executed) || !slices.Equal(at.Pending, pending) {
		t.Fatalf("executed %s\npending %s\nin order: executed %s\npending %s", texts(executed), texts(pending), texts(at.Trace), texts(at.Pending))
	}
}

// 13.8: what holds at every moment.
func TestEveryMoment(t *testing.T) {
	m := maker{chance: 138}
	full := 0
	for i := range 400 {
		p := m.plan(t)
		l := m.layout(p)
		x, team := newWatcher(p, l), made(t, p, l)
		next := pickers(&m.chance, l.Workers)[i%4]
		for at := 0; !team.Over(); at++ {
			x.team(t, team)
			team.Step(next(at))
		}
		x.team(t, team)
		full += x.full
	}
	if full < 600 {
		t.Errorf("all were in PhLow only at %d moments", full)
	}
}
