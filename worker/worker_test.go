package worker_test

import (
	"testing"

	"horizon/api"
)

const (
	firstAdd  = "0.0.0>0:0=5"
	secondAdd = "3.1.0>1:0=7"
	bothAdds  = firstAdd + " " + secondAdd
)

// 13.3 to 13.6: the chapter's table, step by step.
func TestExampleTable(t *testing.T) {
	team := made(t, adds(2, 9), one())
	wantView(t, team, 0, api.PhDrain, 1, 0, 0, bothAdds, "", "")
	steps(t, team, 0, api.PhDrain)
	wantView(t, team, 0, api.PhLow, 1, 0, 0, bothAdds, "", "")
	steps(t, team, 0, api.PhLow)
	wantView(t, team, 0, api.PhWork, 1, 2, 0, bothAdds, "", "")
	steps(t, team, 0, api.PhWork)
	wantView(t, team, 0, api.PhWork, 1, 2, 0, secondAdd, firstAdd, "")
	if words := firstWords(team.States()); words[0] != 5 || words[1] != 0 {
		t.Errorf("the words are %v", words)
	}
	wantEnd(t, "in window 1", team.Result(), api.Unfinished, api.ErrUnfinished, api.Key{}, 0, "", 0, 0)
	steps(t, team, 0, api.PhWork)
	wantView(t, team, 0, api.PhFail, 1, 2, 0, secondAdd, firstAdd, "")
	steps(t, team, 0, api.PhFail, api.PhCount)
	wantView(t, team, 0, api.PhDrain, 2, 2, 0, secondAdd, firstAdd, "")
	steps(t, team, 0, api.PhDrain, api.PhLow)
	wantView(t, team, 0, api.PhWork, 2, 5, 1, secondAdd, "", firstAdd)
	wantEnd(t, "in window 2", team.Result(), api.Unfinished, api.ErrUnfinished, api.Key{}, 0, firstAdd, 5, 0)
	steps(t, team, 0, api.PhWork, api.PhWork, api.PhFail, api.PhCount)
	wantView(t, team, 0, api.PhDrain, 3, 5, 1, "", secondAdd, firstAdd)
	steps(t, team, 0, api.PhDrain)
	if team.Over() {
		t.Error("over too early")
	}
	steps(t, team, 0, api.PhLow)
	wantView(t, team, 0, api.PhOver, 3, 5, 2, "", "", bothAdds)
	for range 2 {
		if !team.Over() {
			t.Error("not over")
		}
		wantEnd(t, "at the end", team.Result(), api.Done, api.OK, api.Key{}, 0, bothAdds, 5, 7)
		if phase, code := team.Step(0); phase != 0 || code != api.ErrPick {
			t.Errorf("step 15 is %d, %d", phase, code)
		}
		wantView(t, team, 0, api.PhOver, 3, 5, 2, "", "", bothAdds)
	}
}

// 13.4: the chapter's examples with a budget of 1.
func TestExampleBudget(t *testing.T) {
	team := made(t, adds(2, 1), one())
	steps(t, team, 0, api.PhDrain, api.PhLow, api.PhWork, api.PhWork, api.PhFail, api.PhCount, api.PhDrain, api.PhLow)
	wantView(t, team, 0, api.PhOver, 2, 2, 1, secondAdd, "", firstAdd)
	wantEnd(t, "Look 2", team.Result(), api.Cut, api.OK, api.Key{}, 0, firstAdd, 5, 0)

	team = made(t, adds(5, 1), one())
	steps(t, team, 0, api.PhDrain, api.PhLow)
	wantView(t, team, 0, api.PhWork, 1, 5, 0, bothAdds, "", "")
	steps(t, team, 0, api.PhWork, api.PhWork)
	wantView(t, team, 0, api.PhFail, 1, 5, 0, secondAdd, firstAdd, "")
	wantCode(t, team, 0, api.OK, api.Key{})
	steps(t, team, 0, api.PhFail, api.PhCount, api.PhDrain, api.PhLow)
	wantView(t, team, 0, api.PhOver, 2, 5, 1, secondAdd, "", firstAdd)
	wantEnd(t, "Look 5", team.Result(), api.Cut, api.OK, api.Key{}, 0, firstAdd, 5, 0)
}

// 13.4: the chapter's example of a choice: each of two workers executes one event, of which the budget lets one.
func TestExampleChoice(t *testing.T) {
	team := made(t, adds(5, 1), two())
	until(t, team, 2, api.PhShow)
	wantView(t, team, 0, api.PhShow, 1, 5, 0, "", firstAdd, "")
	wantView(t, team, 1, api.PhShow, 1, 5, 0, "", secondAdd, "")
	steps(t, team, 1, api.PhShow)
	steps(t, team, 0, api.PhShow)
	// At the barrier the leaf tells, the root hears and tells, the leaf hears and is through.
	steps(t, team, 1, api.PhMeet, api.PhMeet)
	steps(t, team, 0, api.PhMeet, api.PhMeet, api.PhChoose)
	wantView(t, team, 0, api.PhOver, 1, 5, 0, "", firstAdd, "")
	wantView(t, team, 1, api.PhMeet, 1, 5, 0, "", secondAdd, "")
	wantEnd(t, "one has chosen", team.Result(), api.Unfinished, api.ErrUnfinished, api.Key{}, 0, "", 0, 0)
	if words := firstWords(team.States()); words[0] != 5 || words[1] != 7 {
		t.Errorf("the words are %v", words)
	}
	steps(t, team, 1, api.PhMeet, api.PhMeet, api.PhChoose)
	wantView(t, team, 1, api.PhOver, 1, 5, 0, "", "", "")
	wantEnd(t, "both have", team.Result(), api.Cut, api.OK, api.Key{}, 0, firstAdd, 5, 0)
}

// 13.4: the chapter's example of no room in the undo log.
func TestExampleUndo(t *testing.T) {
	l := one()
	l.Undo = 1
	team := made(t, adds(5, 9), l)
	steps(t, team, 0, api.PhDrain, api.PhLow, api.PhWork)
	wantCode(t, team, 0, api.OK, api.Key{})
	steps(t, team, 0, api.PhWork)
	wantView(t, team, 0, api.PhFail, 1, 5, 0, secondAdd, firstAdd, "")
	wantCode(t, team, 0, api.ErrNoRoom, key(3, 1, 0))
	steps(t, team, 0, api.PhFail)
	wantView(t, team, 0, api.PhOver, 1, 5, 0, secondAdd, "", "")
	wantCode(t, team, 0, api.ErrNoRoom, key(3, 1, 0))
	wantEnd(t, "no room", team.Result(), api.Resource, api.ErrNoRoom, api.Key{}, 1, "", 0, 0)
	// With room for two events it is enough; and so it is for each of two workers with room for one.
	l.Undo = 2
	wantEnd(t, "room for two", toEnd(t, made(t, adds(5, 9), l), 1), api.Done, api.OK, api.Key{}, 0, bothAdds, 5, 7)
	l = two()
	l.Undo = 1
	wantEnd(t, "room for one each", toEnd(t, made(t, adds(5, 9), l), 2), api.Done, api.OK, api.Key{}, 0, bothAdds, 5, 7)
}

// 13.5: Over is told when the last worker has finished, not the first.
func TestOver(t *testing.T) {
	team := made(t, adds(2, 0), layout(3, 0, 1))
	finished := 0
	for at := 0; finished < 3; at++ {
		if team.Over() {
			t.Fatalf("over with %d workers finished", finished)
		}
		team.Step(at % 3)
		finished = 0
		for w := range 3 {
			if view(t, team, w).Phase == api.PhOver {
				finished++
			}
		}
	}
	if !team.Over() {
		t.Error("not over")
	}
}

// 13.6: a Result that is asked for while some have committed a window and others have not tells the window whole.
func TestResultWhileCommitting(t *testing.T) {
	team := made(t, adds(5, 9), two())
	until(t, team, 2, api.PhWork)
	until(t, team, 2, api.PhDrain)
	wantView(t, team, 0, api.PhDrain, 2, 5, 0, "", firstAdd, "")
	wantEnd(t, "nobody has committed", team.Result(), api.Unfinished, api.ErrUnfinished, api.Key{}, 0, "", 0, 0)
	steps(t, team, 1, api.PhDrain, api.PhLow)
	steps(t, team, 0, api.PhDrain, api.PhLow)
	wantEnd(t, "nobody has committed", team.Result(), api.Unfinished, api.ErrUnfinished, api.Key{}, 0, "", 0, 0)
	steps(t, team, 0, api.PhLow)
	wantView(t, team, 0, api.PhOver, 2, 5, 2, "", "", firstAdd)
	wantView(t, team, 1, api.PhLow, 2, 5, 0, "", secondAdd, "")
	wantEnd(t, "one has committed", team.Result(), api.Unfinished, api.ErrUnfinished, api.Key{}, 0, bothAdds, 5, 7)
	steps(t, team, 1, api.PhLow, api.PhLow)
	wantView(t, team, 1, api.PhOver, 2, 5, 2, "", "", secondAdd)
	wantEnd(t, "both have", team.Result(), api.Done, api.OK, api.Key{}, 0, bothAdds, 5, 7)
}

// 13.6: what only one worker has executed in a window that is not committed does not count, though States tells it.
func TestResultInsideAWindow(t *testing.T) {
	p := scenario(t, "look 5 end 100 kind k type T { var n on k(x) { n = n + 1 send k(x) to 1 - me after 5 } } place t[2] : T start k(0) to t[0] at 0 start k(0) to t[1] at 1")
	team := made(t, p, layout(2, 0, 1))
	for view(t, team, 0).Window < 3 || view(t, team, 0).Phase != api.PhWork {
		steps(t, team, 0, view(t, team, 0).Phase)
		steps(t, team, 1, view(t, team, 1).Phase)
	}
	steps(t, team, 0, api.PhWork)
	trace := "0.0.0>0:0=0 1.1.0>1:0=0 5.0.1>1:0=0 6.1.1>0:0=0"
	wantEnd(t, "in window 3", team.Result(), api.Unfinished, api.ErrUnfinished, api.Key{}, 0, trace, 2, 2)
	if words := firstWords(team.States()); words[0] != 3 || words[1] != 2 {
		t.Errorf("the words are %v", words)
	}
}

// 13.5, 13.6: a plan without parts is done at once, by any number of workers.
func TestNoParts(t *testing.T) {
	for _, workers := range []int{1, 2, 64} {
		team := made(t, api.Plan{Look: 1, End: 5, Budget: 3, Fuel: 1}, layout(workers))
		if n := len(team.States()); n != 0 {
			t.Errorf("%d states", n)
		}
		wantResult(t, "at the start", team.Result(), api.Result{Kind: api.Unfinished, Code: api.ErrUnfinished})
		wantResult(t, workers, toEnd(t, team, workers), api.Result{Kind: api.Done})
	}
}
