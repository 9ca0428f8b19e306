package worker_test

import (
	"fmt"
	"slices"
	"strings"
	"testing"

	"horizon/api"
	"horizon/seqrun"
	"horizon/worker"
)

// levels is how many levels the tree of a net has, by chapter 10.
func levels(workers int) int {
	n := 0
	for ; workers > 0; workers /= 2 {
		n++
	}
	return n
}

// enough is 13.9's number of steps.
func enough(p api.Plan, l api.Layout, k int) int {
	n := levels(l.Workers)
	return k * ((p.Budget+1)*(15*n+3) + 5*n + 2)
}

// idler picks whom it is of least use to step, as long as everybody else may wait: nobody waits for K steps.
type idler struct {
	team *worker.Team
	k    int
	last []int // by worker: the number of its last step
	now  int
}

func (x *idler) pick(t *testing.T) int {
	var waiting []int
	for w := range x.last {
		if view(t, x.team, w).Phase != api.PhOver {
			waiting = append(waiting, w)
		}
	}
	slices.SortStableFunc(waiting, func(v, w int) int { return x.last[v] - x.last[w] })
	for i, w := range waiting {
		// Who has waited longest goes now, if else one of those behind it could not go in time.
		if x.last[w]+x.k-x.now <= i+1 {
			return waiting[0]
		}
	}
	// Who is farthest has nothing to do but wait.
	return slices.MaxFunc(waiting, func(v, w int) int {
		a, b := view(t, x.team, v), view(t, x.team, w)
		return (a.Window-b.Window)*api.NumPhases + a.Phase - b.Phase
	})
}

// 13.9: nobody waits for ever, though who has nothing to do gets nearly all steps.
func TestNobodyWaitsForEver(t *testing.T) {
	m := maker{chance: 139}
	for i := range 150 {
		p := m.plan(t)
		l := m.layout(p)
		k := l.Workers + pick(&m.chance, []int{0, 1, 5, 40})
		x := &idler{team: made(t, p, l), k: k, last: make([]int, l.Workers)}
		for !x.team.Over() {
			w := x.pick(t)
			if x.now-x.last[w] > k {
				t.Fatalf("worker %d has waited for %d steps", w, x.now-x.last[w])
			}
			if _, code := x.team.Step(w); code != api.OK {
				t.Fatalf("Step is %d", code)
			}
			x.now++
			x.last[w] = x.now
			if x.now > enough(p, l, k) {
				t.Fatalf("plan %d: %d steps are not enough", i, x.now)
			}
		}
	}
}

// 13.9: by turns, with every number of workers.
func TestTurnsAreEnough(t *testing.T) {
	p := scenario(t, "look 1 end 1000 budget 12 kind k type T { var n on k(x) { n = n + 1 send k(x) to (me + 1) % 3 after 1 } } place t[3] : T start k(0) to t[0] at 0")
	want := seqrun.Run(p)
	for workers := 1; workers <= api.MaxWorkers; workers++ {
		l := layout(workers, 0, workers/2, workers-1)
		team := made(t, p, l)
		taken := 0
		for at := 0; !team.Over(); at++ {
			if _, code := team.Step(at % workers); code == api.OK {
				taken++
			}
			if taken > enough(p, l, workers) {
				t.Fatalf("%d workers: %d steps are not enough", workers, taken)
			}
		}
		wantResult(t, workers, team.Result(), want)
	}
}

// 13.9: without events, and with a budget of 0.
func TestShortRuns(t *testing.T) {
	for workers := 1; workers <= api.MaxWorkers; workers++ {
		for _, p := range []api.Plan{{Look: 1, Fuel: 1}, adds(2, 0)} {
			l := layout(workers, make([]int, len(p.Parts))...)
			team := made(t, p, l)
			for round := range 5*levels(workers) + 5 {
				if team.Over() {
					break
				}
				if round == 5*levels(workers)+4 {
					t.Fatalf("%d workers do not come to an end", workers)
				}
				for w := range workers {
					team.Step(w)
				}
			}
		}
	}
}

// crowd is a plan as large as can be: 64 parts that keep sending to others.
func crowd(t *testing.T, budget int, look, end uint64) api.Plan {
	t.Helper()
	p := scenario(t, `look 1 end 9 kind k
type T { var n var last[3] on k(x) { n = n + 1 last[n % 3] = x * 31 + now
  let i = 0
  while i < x { send k(roll(3)) to roll(64) after 4 + roll(9) i = i + 1 } } }
place t[64] : T`)
	p.Budget, p.Look, p.End, p.Fuel, p.Seed = budget, look, end, api.MaxFuel, 99
	for i := range api.MaxStarts {
		p.Starts = append(p.Starts, api.Start{Time: uint64(i % 7), Dst: i * 5 % 64, Data: int64(1 + i%2)})
	}
	return p
}

// 13.7: large runs end as the run in the order of keys, whoever owns what.
func TestCrowds(t *testing.T) {
	c := chance(64)
	for _, run := range []struct {
		budget    int
		look, end uint64
		kind      int
	}{{4096, 4, 1 << 60, api.Cut}, {4096, 1, 40, api.Done}, {300, 4, 90, api.Cut}, {256, 3, 100, api.Cut}, {4096, 5, 90, api.Fault}} {
		p := crowd(t, run.budget, run.look, run.end)
		want := seqrun.Run(p)
		if want.Kind != run.kind {
			t.Fatalf("%v: the run is another: %d, %d, %d events", run, want.Kind, want.Code, len(want.Trace))
		}
		for _, workers := range []int{1, 2, 13, 64} {
			l := layout(workers)
			for part := range 64 {
				l.Owner = append(l.Owner, []int{part % workers, c.below(workers)}[c.below(2)])
			}
			wantResult(t, fmt.Sprint(run, workers), toEnd(t, made(t, p, l), workers), want)
		}
	}
}

// sends is a listing of a send of so many events of a kind, to the part itself or to a part.
func sends(many int, kind, to, after string) string {
	return strings.Repeat("push 0\n"+to+"\npush "+after+"\nsend "+kind+"\n", many)
}

// sender is a plan of so many parts, whose first kind is handled by a listing, the second one by nothing.
func sender(t *testing.T, parts int, listing string) api.Plan {
	t.Helper()
	p := api.Plan{Kinds: 2, Look: 1, End: 1 << 40, Budget: api.MaxBudget, Fuel: api.MaxFuel}
	p.Programs = []api.Program{program(t, "entry a -\na: "+listing+"stop\n")}
	p.Parts = make([]api.Part, parts)
	return p
}

// wantLack holds a run in which a worker finds no room at an event of a window against 13.7.
func wantLack(t *testing.T, p api.Plan, l api.Layout, window, w int, at api.Key) {
	t.Helper()
	team := made(t, p, l)
	wantResult(t, "no room", toEnd(t, team, l.Workers), promised(p, window))
	wantCode(t, team, w, api.ErrNoRoom, at)
}

// 13.4, 13.8: the largest queue, filled to its last place, and one beyond.
func TestLargestQueue(t *testing.T) {
	// Each event leaves the queue, and sixteen come in: 15 more a window, from 2 on.
	p := sender(t, 1, sends(1, "0", "me", "1")+sends(15, "1", "me", "1000000"))
	p.Starts = []api.Start{{}, {Time: 1 << 30}}
	p.Budget = 546
	team := made(t, p, layout(1, 0))
	wantResult(t, "full", toEnd(t, team, 1), seqrun.Run(p))
	if n := len(view(t, team, 0).Pending); n != api.MaxArena {
		t.Errorf("%d events are pending", n)
	}
	p.Budget++
	wantLack(t, p, layout(1, 0), 547, 0, key(546, 0, 2+16*545))
	p.Budget--
	wantLack(t, p, tight(layout(1, 0), api.MaxArena-1, 1, 1), 546, 0, key(545, 0, 2+16*544))
}

// 13.4: the largest box, filled to its last place, and one beyond; what the receiver has no room for shows in its drain.
func TestLargestBox(t *testing.T) {
	p := sender(t, 2, sends(16, "1", "push 1", "100"))
	p.Look = 100
	for i := range 64 {
		p.Starts = append(p.Starts, api.Start{Time: uint64(i)})
	}
	wantResult(t, "full", toEnd(t, made(t, p, layout(2, 0, 1)), 2), seqrun.Run(p))
	wantLack(t, p, tight(layout(2, 0, 1), api.MaxArena, api.MaxBox-1, api.MaxUndo), 1, 0, key(63, 0, 63))
	wantResult(t, "a full queue", toEnd(t, made(t, p, tight(layout(2, 0, 1), 1024, 1024, 1024)), 2), seqrun.Run(p))
	wantLack(t, p, tight(layout(2, 0, 1), 1023, 1024, 1024), 1, 1, key(163, 0, 64+16*64-1))
	p.Starts = append(p.Starts, api.Start{Time: 64})
	wantLack(t, p, layout(2, 0, 1), 1, 0, key(64, 0, 64))
}

// 13.4: as many events in one window as can be: an undo log for just them, one that is too small, and a choice among those of 64 workers.
func TestLargestWindow(t *testing.T) {
	p := sender(t, 64, sends(16, "1", "me", "100"))
	p.Look = 100
	for i := range api.MaxStarts {
		p.Starts = append(p.Starts, api.Start{Time: uint64(i / 8), Dst: i % 64})
	}
	want := seqrun.Run(p)
	if want.Kind != api.Cut || len(seqrun.Windows(p)) != 2 {
		t.Fatalf("the run is another: %d", want.Kind)
	}
	all := layout(1, make([]int, 64)...)
	wantResult(t, "one worker", toEnd(t, made(t, p, all), 1), want)
	wantResult(t, "just enough", toEnd(t, made(t, p, tight(all, api.MaxArena, 1, 3840)), 1), want)
	wantLack(t, p, tight(all, api.MaxArena, 1, 3839), 2, 0, want.Trace[4095].Key)
	each := layout(64)
	for part := range 64 {
		each.Owner = append(each.Owner, 63-part)
	}
	team := made(t, p, each)
	until(t, team, 64, api.PhShow)
	for w := range 64 {
		if n := len(view(t, team, w).Log); n != 64 {
			t.Fatalf("worker %d has executed %d events", w, n)
		}
	}
	wantResult(t, "a choice", toEnd(t, team, 64), want)
}
