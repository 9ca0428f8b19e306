package seqrun_test

import (
	"fmt"
	"runtime"
	"slices"
	"sync"
	"testing"

	"horizon/api"
	"horizon/seqrun"
)

// roomy is a list with some room behind its end, in which something lies.
func roomy[T any](l []T, behind T) []T {
	out := append(make([]T, 0, len(l)+3), l...)
	spoil(out[len(out):], behind)
	return out
}

var (
	junkInstr   = api.Instr{Op: api.IFail, A: 77, B: 77}
	junkProgram = api.Program{Words: 77, Locals: 77, Code: []api.Instr{junkInstr}, Entry: []int{77}}
	junkPart    = api.Part{Program: 77, Words: []int64{77}}
	junkStart   = api.Start{Time: 77, Dst: 77, Kind: 77, Data: 77}
	junkEvent   = api.Event{Key: api.Key{Time: 77, Src: 77, Seq: 77}, Dst: 77, Kind: 77, Data: 77}
	junkState   = api.State{Words: []int64{77}, Dice: 77, Sent: 77}
)

func roomyPlan(p api.Plan) api.Plan {
	p = cloned(p)
	for i, g := range p.Programs {
		p.Programs[i].Code, p.Programs[i].Entry = roomy(g.Code, junkInstr), roomy(g.Entry, 77)
	}
	for i, part := range p.Parts {
		p.Parts[i].Words = roomy(part.Words, 77)
	}
	p.Programs, p.Parts, p.Starts = roomy(p.Programs, junkProgram), roomy(p.Parts, junkPart), roomy(p.Starts, junkStart)
	return p
}

func roomyPoint(at api.Point) api.Point {
	at = clonedPoint(at)
	for i, v := range at.States {
		at.States[i].Words = roomy(v.Words, 77)
	}
	return api.Point{States: roomy(at.States, junkState), Pending: roomy(at.Pending, junkEvent), Trace: roomy(at.Trace, junkEvent)}
}

// wholePlan and wholePoint tell all that is in a thing, with what lies behind the ends of its lists.
func wholePlan(p api.Plan) string {
	p.Programs, p.Parts, p.Starts = slices.Clone(p.Programs[:cap(p.Programs)]), slices.Clone(p.Parts[:cap(p.Parts)]), p.Starts[:cap(p.Starts)]
	for i, g := range p.Programs {
		p.Programs[i].Code, p.Programs[i].Entry = g.Code[:cap(g.Code)], g.Entry[:cap(g.Entry)]
	}
	for i, part := range p.Parts {
		p.Parts[i].Words = part.Words[:cap(part.Words)]
	}
	return fmt.Sprint(p)
}

func wholePoint(at api.Point) string {
	at.States = slices.Clone(at.States[:cap(at.States)])
	for i, v := range at.States {
		at.States[i].Words = v.Words[:cap(v.Words)]
	}
	return fmt.Sprint(at.States, at.Pending[:cap(at.Pending)], at.Trace[:cap(at.Trace)])
}

// spoilPlan, spoilPoint and spoilResult write over all that can be reached, and behind it.
func spoilPlan(p api.Plan) {
	for _, g := range p.Programs {
		spoil(g.Code, junkInstr)
		spoil(g.Entry, 77)
	}
	for _, part := range p.Parts {
		spoil(part.Words, 77)
	}
	spoil(p.Programs, junkProgram)
	spoil(p.Parts, junkPart)
	spoil(p.Starts, junkStart)
}

func spoilPoint(at api.Point) {
	for _, v := range at.States {
		spoil(v.Words, 77)
	}
	spoil(at.States, junkState)
	spoil(at.Pending, junkEvent)
	spoil(at.Trace, junkEvent)
}

func spoilResult(r api.Result) { spoilPoint(api.Point{States: r.States, Trace: r.Trace}) }

// 0.4: no call changes the plan or the point that it is given, nor what lies behind their lists.
func TestHandedInIsNotChanged(t *testing.T) {
	m := maker{chance: 4}
	for range 200 {
		p := roomyPlan(m.plan(t))
		s := opened(t, p, first(t, p))
		for range m.below(9) {
			s.Step()
		}
		at := roomyPoint(s.Point())
		plan, point := wholePlan(p), wholePoint(at)
		seqrun.Valid(p)
		seqrun.First(p)
		seqrun.Run(p)
		seqrun.Prefix(p, m.below(9))
		seqrun.Windows(p)
		for range seqrun.Each(p) {
		}
		s = opened(t, p, at)
		toEnd(s)
		spoilPoint(s.Point())
		spoilResult(s.Result())
		if x := wholePlan(p); x != plan {
			t.Fatalf("the plan\n%s\nhas become\n%s", plan, x)
		}
		if x := wholePoint(at); x != point {
			t.Fatalf("the point\n%s\nhas become\n%s", point, x)
		}
	}
}

// 0.4, 12.7: who writes over what was handed in, or behind it, changes nothing: not a run that is open, not what Each gives.
func TestHandedInIsNotKept(t *testing.T) {
	m := maker{chance: 40}
	for range 300 {
		p := m.plan(t)
		want := slowRun(p)
		other := newSlow(p, slowFirst(p))
		for range m.below(9) {
			other.Step()
		}
		mine, at := roomyPlan(p), roomyPoint(other.Point())
		other = newSlow(p, other.Point())
		s, each := opened(t, mine, at), seqrun.Each(mine)
		half := opened(t, mine, at)
		half.Step()
		point := half.Point()
		spoilPlan(mine)
		spoilPoint(at)
		samePoint(t, "spoilt", half.Point(), point)
		for range 2 {
			var l []api.Event
			for _, e := range each {
				l = append(l, e)
			}
			if !slices.Equal(l, want.Trace) {
				t.Fatalf("Each gives %s, not %s", texts(l), texts(want.Trace))
			}
		}
		samePoint(t, "spoilt", s.Point(), other.Point())
		for alike(t, s, other) == api.OK {
		}
	}
}

// 0.4, 12.5: what is handed out is nobody else's: not the run's, not another answer's, not another list's of one answer, nor the room behind it.
func TestHandedOutIsApart(t *testing.T) {
	m := maker{chance: 41}
	for range 200 {
		p := m.plan(t)
		at := first(t, p)
		spoilPoint(at)
		s, other := opened(t, p, slowFirst(p)), newSlow(p, slowFirst(p))
		for {
			spoilPoint(s.Point())
			spoilResult(s.Result())
			point, result := s.Point(), s.Result()
			spoilResult(s.Result())
			spoilPoint(s.Point())
			samePoint(t, "beside spoilt answers", point, other.Point())
			sameResult(t, "beside spoilt answers", result, other.Result())
			spoil(point.Trace, junkEvent)
			sameResult(t, "beside a spoilt trace", result, other.Result())
			if alike(t, s, other) != api.OK {
				break
			}
		}
		want := slowRun(p)
		spoilResult(seqrun.Run(p))
		spoil(seqrun.Windows(p), api.Window{Number: 77})
		sameResult(t, "Run", seqrun.Run(p), want)
		if l := seqrun.Windows(p); !slices.Equal(l, slowWindows(p)) {
			t.Fatalf("Windows is %v", l)
		}
		samePoint(t, "First", first(t, p), slowFirst(p))
	}
}

// 0.4: no two lists of one answer share memory: who appends to one, or writes into it, does not touch another.
func TestListsOfOneAnswer(t *testing.T) {
	p := with(func(p *api.Plan) { p.Parts = grown(p.Parts, 5) })
	s := opened(t, p, first(t, p))
	toEnd(s)
	for _, states := range [][]api.State{first(t, p).States, s.Point().States, s.Result().States, seqrun.Run(p).States} {
		for i, v := range states {
			ahead := tellStates(slices.Delete(slices.Clone(states), i, i+1))
			spoil(v.Words, 77)
			if x := tellStates(slices.Delete(slices.Clone(states), i, i+1)); x != ahead {
				t.Fatalf("the words of part %d lie in those of others: %s, then %s", i, ahead, x)
			}
		}
	}
}

// 0.3: two runs of one plan, opened at one point, know nothing of one another.
func TestTwoRuns(t *testing.T) {
	m := maker{chance: 3}
	for range 200 {
		p := m.plan(t)
		at := first(t, p)
		a, b := opened(t, p, at), opened(t, p, at)
		x, y := newSlow(p, at), newSlow(p, at)
		for range 40 {
			if m.below(3) == 0 {
				alike(t, a, x)
			} else {
				alike(t, b, y)
			}
			samePoint(t, "the other", a.Point(), x.Point())
			samePoint(t, "the other", b.Point(), y.Point())
		}
	}
}

// 12.5: Point and Result change nothing, however often they are asked.
func TestLooksChangeNothing(t *testing.T) {
	m := maker{chance: 125}
	for range 200 {
		p := m.plan(t)
		often, never := opened(t, p, first(t, p)), opened(t, p, first(t, p))
		for {
			for range 3 {
				often.Point()
				often.Result()
			}
			a, x := often.Step()
			b, y := never.Step()
			if a != b || x != y {
				t.Fatalf("Step is %v, %d where somebody looked, else %v, %d", a, x, b, y)
			}
			if x != api.OK {
				break
			}
		}
		samePoint(t, "looked at", often.Point(), never.Point())
		sameResult(t, "looked at", often.Result(), never.Result())
	}
}

// 0.3: an iterator may be ranged over by several goroutines, for each ranging has a run of its own.
func TestEachSideBySide(t *testing.T) {
	each := seqrun.Each(clock())
	var all sync.WaitGroup
	got := make([]string, 8)
	for i := range got {
		all.Add(1)
		go func() {
			defer all.Done()
			var l []api.Event
			for _, e := range each {
				l = append(l, e)
			}
			got[i] = texts(l)
		}()
	}
	all.Wait()
	for _, x := range got {
		if x != clockTrace {
			t.Errorf("Each gives %s", x)
		}
	}
}

// heap is how many bytes are in use.
func heap() int {
	var m runtime.MemStats
	for range 3 {
		runtime.GC()
	}
	runtime.ReadMemStats(&m)
	return int(m.HeapAlloc)
}

// Language, 8: a run keeps of its plan what its steps need: no starts, and of programs those that parts have.
func TestHoldsOnToNothing(t *testing.T) {
	p := with(func(p *api.Plan) {
		idle := api.Program{Entry: []int{-1}, Code: make([]api.Instr, api.MaxCode)}
		p.Programs = append(p.Programs, slices.Repeat([]api.Program{idle}, 15)...)
		p.Starts = grown(p.Starts, 256)
	})
	at := first(t, p)
	at.Pending = at.Pending[:1]
	empty := heap()
	var runs []*seqrun.Sim
	for range 20 {
		runs = append(runs, opened(t, p, at))
	}
	if n := (heap() - empty) / len(runs); n > 4096 {
		t.Errorf("a run of two small parts takes %d bytes", n)
	}
	runtime.KeepAlive(runs)
}
