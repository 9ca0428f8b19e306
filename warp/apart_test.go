package warp_test

import (
	"slices"
	"sync"
	"testing"

	"horizon/api"
	"horizon/warp"
)

// busy is a plan in which everything happens, a layout of three workers for it, and picks to its end; behind each list lies something in its spare room.
func busy(t *testing.T) (api.Plan, api.Layout, []int) {
	t.Helper()
	p := scenario(t, shop)
	l := wide(3, 0, 1, 2, 1)
	p.Starts = append(p.Starts, api.Start{Time: 77})[:2]
	p.Parts = append(p.Parts, api.Part{Program: 77})[:4]
	l.Owner = append(l.Owner, 77)[:4]
	var picks []int
	for at := range 900 {
		picks = append(picks, (at/7+at*at)%3)
		if at%11 == 10 {
			picks = append(picks, 3)
		}
	}
	return p, l, append(picks, 77)[:len(picks)]
}

// spoilPlan writes over all that a plan holds.
func spoilPlan(p api.Plan) {
	for _, g := range p.Programs {
		spoil(g.Code, api.Instr{Op: api.IFail, A: 77})
		spoil(g.Entry, 99)
	}
	for _, part := range p.Parts {
		spoil(part.Words, -1)
	}
	spoil(p.Programs, api.Program{})
	spoil(p.Parts, api.Part{Program: 44})
	spoil(p.Starts, api.Start{Time: 1, Dst: 70})
}

func spoilResult(r api.Result) {
	for _, v := range r.States {
		spoil(v.Words, -9)
	}
	spoil(r.States, api.State{Dice: 7})
	spoil(r.Trace, api.Event{Dst: 5})
}

func spoilView(v api.Warp) {
	spoil(v.Pending, api.Event{Key: key(1, 1, 1), Dst: 9})
	spoil(v.Done, api.Event{Key: key(2, 1, 1), Dst: 9})
	spoil(v.Mail, api.Letter{Event: api.Event{Dst: 9}, Anti: true})
}

// 0.4: no call changes what is handed in, spare room behind a list's end too; and what is written into it later changes nothing.
func TestHandedIn(t *testing.T) {
	p, l, picks := busy(t)
	q, k, same := busy(t)
	warp.Run(p, l, picks)
	warp.Fair(p, l, 100)
	warp.Enough(p, l)
	team, other := made(t, p, l), made(t, q, k)
	for _, pick := range picks[:60] {
		doPick(team, 3, pick)
		doPick(other, 3, pick)
	}
	if !slices.Equal(picks[:cap(picks)], same[:cap(same)]) || !slices.Equal(l.Owner[:5], k.Owner[:5]) {
		t.Error("picks or owners have changed")
	}
	for i, g := range p.Programs {
		if !slices.Equal(g.Code, q.Programs[i].Code) || !slices.Equal(g.Entry, q.Programs[i].Entry) {
			t.Error("a program has changed")
		}
	}
	for i, part := range p.Parts {
		if part.Program != q.Parts[i].Program || !slices.Equal(part.Words, q.Parts[i].Words) {
			t.Error("a part has changed")
		}
	}
	if !slices.Equal(p.Starts[:3], q.Starts[:3]) || p.Parts[:5][4].Program != 77 {
		t.Error("starts, or what lies behind the parts, have changed")
	}
	spoilPlan(p)
	spoil(l.Owner, 63)
	for _, pick := range picks[60:] {
		doPick(team, 3, pick)
		doPick(other, 3, pick)
	}
	wantResult(t, "behind the spoiling", team.Result(), other.Result())
	if !team.Over() || team.Result().Kind != api.Done {
		t.Errorf("the result is\n%s", tell(team.Result()))
	}
}

// 0.4, 18.5, 18.6: what is written into an answer changes nothing: not the team, not another answer; and asking changes nothing.
func TestHandedOut(t *testing.T) {
	p, l, picks := busy(t)
	p.Budget = 30
	team, other := made(t, p, l), newSlow(p, l)
	for _, pick := range picks[:300] {
		alike(t, team, other, pick)
		for w := range 3 {
			before := view(t, team, w)
			spoilView(view(t, team, w))
			viewsAlike(t, team, other, w)
			if b, _ := other.View(w); !sameViews(before, b) {
				t.Fatalf("an answer has changed: %s", tellView(before))
			}
		}
		before := team.Result()
		spoilResult(team.Result())
		wantResult(t, "an answer", before, other.Result())
		wantResult(t, "the team", team.Result(), other.Result())
	}
	if !team.Over() {
		t.Error("it is not over")
	}
	r, _ := warp.Run(p, l, picks)
	want := tell(r)
	again, _ := warp.Run(p, l, picks)
	spoilResult(r)
	if tell(again) != want {
		t.Error("two answers share memory")
	}
}

// 0.4: no two lists of one answer lie in one memory.
func TestListsApart(t *testing.T) {
	p, l, picks := busy(t)
	team := made(t, p, l)
	for _, pick := range picks {
		doPick(team, 3, pick)
		for w := range 3 {
			v := view(t, team, w)
			spoil(v.Pending, api.Event{Dst: 7})
			spoil(v.Done, api.Event{Dst: 8})
			for _, e := range v.Pending {
				if e != (api.Event{Dst: 7}) {
					t.Fatal("Pending and Done share their memory")
				}
			}
		}
		r := team.Result()
		for i, v := range r.States {
			spoil(v.Words, int64(i))
		}
		for i, v := range r.States {
			if slices.Max(v.Words) != int64(i) || slices.Min(v.Words) != int64(i) {
				t.Fatal("the states of two parts share their words")
			}
		}
	}
}

// 0.3: teams know nothing of one another, and the same picks give the same again.
func TestTeamsApart(t *testing.T) {
	m := maker{chance: 3}
	var teams []*warp.Team
	var slows []*slow
	for range 6 {
		p := m.plan(t)
		l := m.layout(p)
		for range 2 {
			teams, slows = append(teams, made(t, p, l)), append(slows, newSlow(p, l))
		}
	}
	for range 1000 {
		at := m.below(len(teams))
		alike(t, teams[at], slows[at], m.below(slows[at].layout.Workers+2))
	}
	for at := range teams {
		allAlike(t, teams[at], slows[at])
		wantResult(t, at, teams[at].Result(), slows[at].Result())
	}
}

// 0.3, 0.5: runs side by side know nothing of one another; the order in which a map is gone through is not to be seen, how often the same is asked.
func TestSideBySide(t *testing.T) {
	m := maker{chance: 33}
	var wait sync.WaitGroup
	for range 30 {
		p := m.plan(t)
		l := m.layout(p)
		picks := m.picks(l.Workers, 80)
		want := told(t, p, l, picks)
		for range 4 {
			wait.Go(func() {
				if got := told(t, p, l, picks); got != want {
					t.Errorf("the answers are\n%s\nnot\n%s", got, want)
				}
			})
		}
	}
	wait.Wait()
}

// told is all that can be seen of a team behind its picks.
func told(t *testing.T, p api.Plan, l api.Layout, picks []int) string {
	team, _ := warp.New(p, l)
	s := ""
	for _, pick := range picks {
		doPick(team, l.Workers, pick)
	}
	for w := range l.Workers {
		v, _ := team.View(w)
		s += tellView(v)
	}
	k, _ := team.Low()
	return s + keyText(k) + tell(team.Result())
}
