package warp_test

import (
	"testing"

	"horizon/api"
	"horizon/warp"
)

// viewsAlike holds what can be seen of a worker against the words.
func viewsAlike(t *testing.T, team *warp.Team, other *slow, w int) {
	t.Helper()
	a, code := team.View(w)
	b, c := other.View(w)
	if code != c || !sameViews(a, b) {
		t.Fatalf("View(%d) is %d,\n%s\nnot %d,\n%s", w, code, tellView(a), c, tellView(b))
	}
}

// allAlike holds all that can be seen of a team against the words.
func allAlike(t *testing.T, team *warp.Team, other *slow) {
	t.Helper()
	for w := -1; w <= other.layout.Workers; w++ {
		viewsAlike(t, team, other, w)
	}
	if team.Over() != other.Over() {
		t.Fatalf("Over is %v", team.Over())
	}
	k, any := team.Low()
	if low, some := other.Low(); k != low || any != some {
		t.Fatalf("Low is %v, %v, not %v, %v", k, any, low, some)
	}
}

// alike does what a pick says with a team and by the words, and holds the answers against each other.
func alike(t *testing.T, team *warp.Team, other *slow, pick int) {
	t.Helper()
	ask := func(gather func() (int, api.Errno), step func(w int) (int, api.Errno)) (int, api.Errno) {
		if pick == other.layout.Workers {
			return gather()
		}
		return step(pick)
	}
	n, code := ask(team.Gather, team.Step)
	if m, c := ask(other.Gather, other.Step); n != m || code != c {
		t.Fatalf("pick %d is %d, %d, not %d, %d", pick, n, code, m, c)
	}
}

// 18.1 to 18.6: thrown plans under thrown layouts, pick by pick in many orders, as the words read slowly; what is refused changes nothing, and a run that is over stays so.
func TestThrownPicks(t *testing.T) {
	m := maker{chance: 182}
	ended := 0
	for range 900 {
		p := m.plan(t)
		l := m.layout(p)
		team, other := made(t, p, l), newSlow(p, l)
		allAlike(t, team, other)
		for at, pick := range m.picks(l.Workers, 150) {
			if other.Over() || other.cost > 20000 {
				break
			}
			alike(t, team, other, pick)
			if at%4 == 0 || pick == l.Workers {
				allAlike(t, team, other)
				wantResult(t, "on its way", team.Result(), other.Result())
			}
			if at%50 == 7 {
				alike(t, team, other, l.Workers+1+m.below(100))
				allAlike(t, team, other)
			}
		}
		if !other.Over() {
			continue
		}
		ended++
		for w := -1; w <= l.Workers+1; w++ {
			alike(t, team, other, w)
		}
		allAlike(t, team, other)
		wantResult(t, "over", team.Result(), other.Result())
		refused(t, team, l.Workers)
	}
	if ended < 300 {
		t.Errorf("only %d runs were over", ended)
	}
}

// 18.7: Run with thrown picks, Fair with any number of rounds, as the words read slowly.
func TestThrownRuns(t *testing.T) {
	m := maker{chance: 187}
	for range 300 {
		p := m.plan(t)
		l := m.layout(p)
		picks := m.picks(l.Workers, m.below(80))
		other := newSlow(p, l)
		for _, pick := range picks {
			other.play(pick)
		}
		r, err := warp.Run(p, l, picks)
		wantAnswer(t, "Run", r, err, other.Result())

		rounds := m.below(12) - 1
		other = newSlow(p, l)
		for _, pick := range turnsOf(l.Workers, max(0, rounds)) {
			other.play(pick)
		}
		r, err = warp.Fair(p, l, rounds)
		wantAnswer(t, "Fair", r, err, other.Result())
		if n := warp.Enough(p, l); n != p.Budget+1 {
			t.Fatalf("Enough is %d, the budget %d", n, p.Budget)
		}
	}
}
