package worker_test

import (
	"fmt"
	"testing"

	"horizon/api"
	"horizon/worker"
)

// look is all that tells a slow team from others, as far as steps can ever tell.
func (s *slow) look() string {
	text := ""
	for _, w := range s.workers {
		text += fmt.Sprintln(tellView(w.View), w.place, w.through, w.keys, w.committed)
	}
	return text
}

// spot is a team that was found, and the steps that lead to it.
type spot struct {
	slow *slow
	way  []int
}

// explore goes to every team that any order of steps can reach, and shows each.
func explore(p api.Plan, l api.Layout, see func(x spot)) int {
	start := newSlow(p, l)
	todo := []spot{{slow: start}}
	seen := map[string]bool{start.look(): true}
	for len(todo) > 0 {
		x := todo[0]
		todo = todo[1:]
		see(x)
		for w := range l.Workers {
			next := x.slow.clone()
			if _, code := next.Step(w); code != api.OK {
				continue
			}
			if look := next.look(); !seen[look] {
				seen[look] = true
				todo = append(todo, spot{next, append(x.way[:len(x.way):len(x.way)], w)})
			}
		}
	}
	return len(seen)
}

// replayed is a team behind some steps.
func replayed(t *testing.T, p api.Plan, l api.Layout, way ...int) *worker.Team {
	t.Helper()
	team := made(t, p, l)
	for _, w := range way {
		team.Step(w)
	}
	return team
}

// everyOrder tries every order of steps, holds all that can be seen at each moment against the chapter, and tells how many teams there were.
func everyOrder(t *testing.T, p api.Plan, l api.Layout) int {
	t.Helper()
	x := newWatcher(p, l)
	end, _ := inWindows(p, l)
	over := 0
	n := explore(p, l, func(at spot) {
		team := replayed(t, p, l, at.way...)
		allAlike(t, team, at.slow)
		x.team(t, team)
		if team.Over() {
			over++
		}
		for v := range l.Workers {
			for w := range v {
				if asksNobody(at.slow.workers[v].Phase) && asksNobody(at.slow.workers[w].Phase) {
					way := at.way[:len(at.way):len(at.way)]
					sameTeams(t, replayed(t, p, l, append(way, v, w)...), replayed(t, p, l, append(way, w, v)...), l.Workers)
				}
			}
		}
		// From wherever it is, a team comes to the one end.
		wantResult(t, at.way, toEnd(t, team, l.Workers), end)
	})
	if over != 1 {
		t.Errorf("%d ends", over)
	}
	return n
}

// asks is two parts that ask each other after 5; a handler fails when its data is 9; with the data 20 it asks twice, and itself.
const asks = `look 5 end 30 kind k
type T {
  var n
  on k(x) {
    n = n + x
    if x == 9 { fail x }
    send k(x + 1) to 1 - me after 5
    if x == 20 { send k(x) to 1 - me after 7 send k(x) to me after 8 }
  }
}
place t[2] : T
`

// tight is a layout with other room.
func tight(l api.Layout, arena, box, undo int) api.Layout {
	l.Arena, l.Box, l.Undo = arena, box, undo
	return l
}

// 13.3 to 13.9: every order of steps of small runs that end in each way, with each lack of room.
func TestEveryOrder(t *testing.T) {
	plan := func(starts string) api.Plan { return scenario(t, asks+starts) }
	for _, run := range []struct {
		name   string
		plan   api.Plan
		layout api.Layout
		kind   int
		lack   string
	}{
		{"adds", adds(2, 9), two(), api.Done, ""},
		{"adds, three workers", adds(2, 9), layout(3, 2, 0), api.Done, ""},
		{"adds, four workers", adds(5, 9), layout(4, 3, 0), api.Done, ""},
		{"adds, cut in a window", adds(5, 1), two(), api.Cut, ""},
		{"adds, three workers, cut in a window", adds(5, 1), layout(3, 2, 1), api.Cut, ""},
		{"adds, cut between windows", adds(2, 1), two(), api.Cut, ""},
		{"adds, nothing to spend", adds(2, 0), two(), api.Cut, ""},
		{"asks", plan("budget 9 start k(1) to t[0] at 0 start k(11) to t[1] at 2"), layout(2, 0, 1), api.Cut, ""},
		{"asks, one worker", plan("start k(1) to t[0] at 0 start k(11) to t[1] at 2"), layout(1, 0, 0), api.Done, ""},
		{"asks, fails", plan("start k(8) to t[0] at 0 start k(11) to t[1] at 6"), layout(2, 0, 1), api.Fault, ""},
		{"asks, both fail", plan("start k(9) to t[0] at 3 start k(1) to t[1] at 1 start k(9) to t[1] at 2"), layout(2, 0, 1), api.Fault, ""},
		{"asks, cut ahead of failing", plan("budget 1 start k(1) to t[0] at 3 start k(1) to t[1] at 1 start k(9) to t[1] at 2"), layout(2, 0, 1), api.Cut, ""},
		{"no room in a box", plan("start k(20) to t[0] at 0 start k(1) to t[1] at 1"), tight(layout(2, 0, 1), 9, 1, 9), api.Resource, "box"},
		{"no room in the drain", plan("start k(20) to t[0] at 0 start k(1) to t[1] at 20"), tight(layout(2, 0, 1), 2, 9, 9), api.Resource, "drain"},
		{"no room in a queue", plan("start k(20) to t[0] at 0 start k(1) to t[0] at 9"), tight(layout(2, 0, 0), 3, 9, 9), api.Resource, "queue"},
		{"no room in an undo log", plan("start k(1) to t[0] at 0 start k(1) to t[0] at 1 start k(9) to t[1] at 0"), tight(layout(2, 0, 1), 9, 9, 1), api.Resource, "undo"},
	} {
		t.Run(run.name, func(t *testing.T) {
			if end, lack := inWindows(run.plan, run.layout); end.Kind != run.kind || lack != run.lack {
				t.Fatalf("the run is another:\n%s, %q", tellResult(end), lack)
			}
			if n := everyOrder(t, run.plan, run.layout); n < 13 {
				t.Errorf("only %d teams were seen", n)
			}
		})
	}
}

// 13.3 to 13.9: every order of steps of thrown runs of few events.
func TestEveryThrownOrder(t *testing.T) {
	m := maker{chance: 1300}
	kinds := map[int]int{}
	seen := 0
	for range 150 {
		p := m.plan(t)
		p.Budget = min(p.Budget, 6)
		l := m.layout(p)
		if l.Workers > 3 {
			continue
		}
		end, _ := inWindows(p, l)
		kinds[end.Kind]++
		seen += everyOrder(t, p, l)
	}
	if seen < 3000 || kinds[api.Done] < 3 || kinds[api.Cut] < 3 || kinds[api.Fault] < 3 || kinds[api.Resource] < 3 {
		t.Errorf("%d teams were seen, with the ends %v", seen, kinds)
	}
}
