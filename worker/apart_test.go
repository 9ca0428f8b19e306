package worker_test

import (
	"testing"

	"horizon/api"
	"horizon/worker"
)

// busy is a plan in which everything happens, and a layout of three workers for it.
func busy(t *testing.T) (api.Plan, api.Layout) {
	t.Helper()
	p := scenario(t, `seed 5 look 3 end 90 budget 60 kind a, b
type S { var n var row[2] on a(x) { n = n + x row[x % 2] = now send b(x + 1) to (me + 1) % 4 after 3 + roll(4) } on b(x) { n = n - 1 send a(x) to me after 5 } }
place s[4] : S
start a(1) to s at 0
start b(2) to s[1] at 2`)
	return p, layout(3, 0, 1, 2, 1)
}

// spoilPlan writes over all that a plan holds.
func spoilPlan(p api.Plan) {
	for _, g := range p.Programs {
		spoil(g.Code, api.Instr{Op: api.IFail, A: 77})
		spoil(g.Entry, 99)
	}
	for _, part := range p.Parts {
		spoil(part.Words, -1)
	}
	spoil(p.Programs, api.Program{})
	spoil(p.Parts, api.Part{Program: 44})
	spoil(p.Starts, api.Start{Time: 1, Dst: 70})
}

// 0.4: what is written into a plan or a layout behind New changes nothing; and New and Valid write into neither.
func TestHandedIn(t *testing.T) {
	p, l := busy(t)
	// Room behind each list's end, with something in it.
	p.Starts = append(p.Starts[:len(p.Starts):len(p.Starts)], api.Start{Time: 3})[:len(p.Starts)]
	l.Owner = append(l.Owner, 2, 2)[:4]
	keptPlan, keptLayout := cloned(p), clonedLayout(l)
	worker.Valid(p, l)
	team, other := made(t, p, l), made(t, cloned(p), clonedLayout(l))
	for at := range 100 {
		team.Step(at % 3)
		other.Step(at % 3)
	}
	if p.Starts[:6][5].Time != 3 || l.Owner[:6][4] != 2 || worker.Valid(p, l) != api.OK {
		t.Error("what was handed in has changed")
	}
	want, _ := inWindows(keptPlan, keptLayout)
	got, _ := inWindows(p, l)
	wantResult(t, "what was handed in", got, want)
	spoilPlan(p)
	spoil(l.Owner, 63)
	wantResult(t, "behind the spoiling", toEnd(t, team, 3), want)
	wantResult(t, "untouched", toEnd(t, other, 3), want)
}

// spoilStates and the like write over all that an answer holds.
func spoilStates(l []api.State) {
	for _, v := range l {
		spoil(v.Words, -9)
	}
	spoil(l, api.State{Dice: 7})
}

func spoilResult(r api.Result) {
	spoilStates(r.States)
	spoil(r.Trace, api.Event{Dst: 5})
}

func spoilView(v api.View) {
	for _, l := range [][]api.Event{v.Pending, v.Log, v.Trace} {
		spoil(l, api.Event{Key: key(1, 1, 1), Dst: 9})
	}
}

// 0.4: what is written into an answer changes nothing: not the team, not another answer. Asking changes nothing either (13.5, 13.6).
func TestHandedOut(t *testing.T) {
	for _, undo := range []int{3, api.MaxUndo} {
		p, l := busy(t)
		l.Undo = undo
		team, other := made(t, p, l), newSlow(p, l)
		for at := 0; ; at++ {
			for w := range 3 {
				before := view(t, team, w)
				spoilView(view(t, team, w))
				viewsAlike(t, team, other, w)
				if b, _ := other.View(w); !sameViews(before, b) {
					t.Fatalf("an answer has changed: %s", tellView(before))
				}
			}
			states, result := team.States(), team.Result()
			spoilStates(team.States())
			spoilResult(team.Result())
			if !sameStates(states, other.States()) || !sameResults(result, other.Result()) {
				t.Fatal("an answer has changed")
			}
			allAlike(t, team, other)
			if other.Over() {
				break
			}
			alike(t, team, other, at*at%3)
			alike(t, team, other, at%3)
		}
	}
}

// 0.4: no two lists of one answer lie in one memory.
func TestListsApart(t *testing.T) {
	p, l := busy(t)
	team := made(t, p, l)
	for !team.Over() {
		for w := range 3 {
			team.Step(w)
			v := view(t, team, w)
			for i, list := range [][]api.Event{v.Pending, v.Log, v.Trace} {
				spoil(list, api.Event{Dst: 7 + i})
			}
			for i, list := range [][]api.Event{v.Pending, v.Log, v.Trace} {
				for _, e := range list {
					if e != (api.Event{Dst: 7 + i}) {
						t.Fatal("two lists of a View share their memory")
					}
				}
			}
		}
		for _, states := range [][]api.State{team.States(), team.Result().States} {
			for i, v := range states {
				spoil(v.Words, int64(i))
			}
			for i, v := range states {
				for _, word := range v.Words {
					if word != int64(i) {
						t.Fatal("the states of two parts share their words")
					}
				}
			}
		}
	}
}

// 0.3: teams know nothing of one another, and the same steps give the same again.
func TestTeamsApart(t *testing.T) {
	m := maker{chance: 3}
	var teams []*worker.Team
	var slows []*slow
	for range 6 {
		p := m.plan(t)
		l := m.layout(p)
		for range 2 {
			teams, slows = append(teams, made(t, p, l)), append(slows, newSlow(p, l))
		}
	}
	for range 4000 {
		at := m.below(len(teams))
		alike(t, teams[at], slows[at], m.below(slows[at].layout.Workers+1))
	}
	for at := range teams {
		allAlike(t, teams[at], slows[at])
	}
}
