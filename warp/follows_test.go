package warp_test

import (
	"slices"
	"testing"

	"horizon/api"
	"horizon/seqrun"
	"horizon/stamp"
	"horizon/warp"
)

// doPick does what one pick of 18.7 says.
func doPick(team *warp.Team, workers, pick int) {
	if pick == workers {
		team.Gather()
	} else {
		team.Step(pick)
	}
}

// toEnd plays thrown picks till the run is over.
func toEnd(t *testing.T, m *maker, p api.Plan, l api.Layout) api.Result {
	t.Helper()
	team := made(t, p, l)
	for range 5000 {
		for _, pick := range m.picks(l.Workers, 50) {
			doPick(team, l.Workers, pick)
		}
		// A hog may let the others starve for long.
		for _, pick := range turnsOf(l.Workers, 1) {
			doPick(team, l.Workers, pick)
		}
		if team.Over() {
			return team.Result()
		}
	}
	t.Fatal("it does not end")
	return api.Result{}
}

// 18.8: whatever the layout, the order of steps and the moments of Gather: the result of the run in the order of keys.
func TestAnyOrder(t *testing.T) {
	m := maker{chance: 188}
	for range 500 {
		p := m.plan(t)
		want := seqrun.Run(p)
		for range 3 {
			l := m.layout(p)
			wantResult(t, "thrown picks", toEnd(t, &m, p, l), want)
			r, err := warp.Fair(p, l, warp.Enough(p, l))
			wantAnswer(t, "by turns", r, err, want)
		}
	}
}

// 18.8: the picks may stop anywhere: the first events of the run in the order of keys, and the states behind them, never fewer than before.
func TestAnyMoment(t *testing.T) {
	m := maker{chance: 1880}
	seen := map[int]int{}
	for range 400 {
		p := m.plan(t)
		l := m.layout(p)
		whole := seqrun.Run(p)
		team := made(t, p, l)
		last := 0
		for _, pick := range m.picks(l.Workers, 150) {
			doPick(team, l.Workers, pick)
			r := team.Result()
			n := len(r.Trace)
			if n < last {
				t.Fatalf("%d events, and there were %d", n, last)
			}
			last = n
			want := whole
			if !team.Over() {
				prefix := seqrun.Prefix(p, n)
				want = api.Result{Kind: api.Unfinished, Code: api.ErrUnfinished, States: prefix.States, Trace: prefix.Trace}
			}
			wantResult(t, n, r, want)
			if team.Over() {
				break
			}
			if n > 0 {
				seen[api.Unfinished]++
			}
		}
		if team.Over() {
			seen[whole.Kind]++
		}
	}
	if seen[api.Unfinished] < 5000 || seen[api.Done] < 50 || seen[api.Cut] < 50 || seen[api.Fault] < 50 {
		t.Errorf("seen %v", seen)
	}
}

// 18.9, 18.12: between any two picks the global virtual time has not fallen, nothing below it is pending, under way or in a Done; Done rises, lies below Pending, and has room.
func TestAtEveryMoment(t *testing.T) {
	m := maker{chance: 189}
	rose, undone := 0, 0
	for range 400 {
		p := m.plan(t)
		l := m.layout(p)
		team := made(t, p, l)
		low, any := team.Low()
		for _, pick := range m.picks(l.Workers, 150) {
			doPick(team, l.Workers, pick)
			now, some := team.Low()
			if any && some && goesFirst(now, low) || any && !some && !team.Over() {
				t.Fatalf("the global virtual time fell from %s to %s, %v", keyText(low), keyText(now), some)
			}
			if some && goesFirst(low, now) {
				rose++
			}
			low, any = now, some
			for w := range l.Workers {
				v := view(t, team, w)
				momentOf(t, v, low, any, l.Undo)
				if pick == w {
					undone += v.Back
				}
			}
		}
	}
	if rose < 1000 || undone < 1000 {
		t.Errorf("it rose %d times, %d undone", rose, undone)
	}
}

// momentOf holds what can be seen of a worker against 18.9 and 18.12.
func momentOf(t *testing.T, v api.Warp, low api.Key, any bool, undo int) {
	t.Helper()
	if len(v.Done) > undo || !stamp.Rising(slices.Concat(v.Done, v.Pending)) {
		t.Fatalf("room for %d, and there is\n%s", undo, tellView(v))
	}
	all := slices.Concat(v.Done, v.Pending)
	for _, x := range v.Mail {
		all = append(all, x.Event)
	}
	for _, e := range all {
		if any && goesFirst(e.Key, low) {
			t.Fatalf("%s is below %s:\n%s", keyText(e.Key), keyText(low), tellView(v))
		}
	}
}

// 18.10: nothing is lost and nothing comes twice, at every moment up to the run's end.
func TestNothingLost(t *testing.T) {
	m := maker{chance: 1810}
	moments, antis := 0, 0
	for range 300 {
		p := m.plan(t)
		l := m.layout(p)
		team, words := made(t, p, l), newSlow(p, l)
		for _, pick := range m.picks(l.Workers, 100) {
			doPick(team, l.Workers, pick)
			if team.Over() || words.cost > 50000 {
				break
			}
			there := counted(team.Result().Trace, 1)
			words.trace = team.Result().Trace
			for w := range l.Workers {
				v := view(t, team, w)
				words.workers[w] = &v
				add(there, v.Done, 1)
				add(there, v.Pending, 1)
				for _, x := range v.Mail {
					if x.Anti {
						antis++
						add(there, []api.Event{x.Event}, -1)
					} else {
						add(there, []api.Event{x.Event}, 1)
					}
				}
			}
			add(there, words.sent(), -1)
			for e, n := range there {
				if n != 0 {
					t.Fatalf("%s: %d too many", stamp.Text(e), n)
				}
			}
			moments++
		}
	}
	if moments < 5000 || antis < 500 {
		t.Errorf("%d moments, %d anti-events", moments, antis)
	}
}

// counted tells how often each event stands in a list.
func counted(l []api.Event, sign int) map[api.Event]int {
	there := map[api.Event]int{}
	add(there, l, sign)
	return there
}

func add(there map[api.Event]int, l []api.Event, sign int) {
	for _, e := range l {
		there[e] += sign
	}
}

// 18.11: if each worker has taken a step since the last Gather, or since the start, the next Gather commits an event, or ends the run.
func TestSomebodyGetsOn(t *testing.T) {
	m := maker{chance: 1811}
	ripe := 0
	for range 500 {
		p := m.plan(t)
		l := m.layout(p)
		team := made(t, p, l)
		stepped := make([]bool, l.Workers)
		for _, pick := range m.picks(l.Workers, 150) {
			if team.Over() {
				break
			}
			if pick != l.Workers {
				if _, code := team.Step(pick); code == api.OK {
					stepped[pick] = true
				}
				continue
			}
			n, _ := team.Gather()
			if !slices.Contains(stepped, false) {
				ripe++
				if n == 0 && !team.Over() {
					t.Fatal("nobody has got on")
				}
			}
			clear(stepped)
		}
	}
	if ripe < 500 {
		t.Errorf("only %d Gathers behind steps of all", ripe)
	}
}

// 18.11: as many rounds as Enough says, or more, always end the run; each round commits something, so one fewer than Enough is too few only where each commits one.
func TestEnough(t *testing.T) {
	m := maker{chance: 18110}
	for range 300 {
		p := m.plan(t)
		l := m.layout(p)
		n := warp.Enough(p, l)
		if n != p.Budget+1 {
			t.Fatalf("Enough is %d", n)
		}
		want := seqrun.Run(p)
		for _, rounds := range []int{n, n + 1, 2*n + 7} {
			r, err := warp.Fair(p, l, rounds)
			wantAnswer(t, rounds, r, err, want)
		}
		for rounds := range min(n, 6) {
			if r, _ := warp.Fair(p, l, rounds); r.Kind == api.Unfinished && len(r.Trace) < rounds {
				t.Fatalf("%d events behind %d rounds", len(r.Trace), rounds)
			}
		}
	}
	// One part, whose events come one by one: each round commits just one.
	p := scenario(t, "look 1 end 1000 budget 20 kind k type T { on k(x) { send k(x) to me after 1 } } place t : T start k(0) to t at 0")
	for rounds, want := range map[int]int{19: api.Unfinished, 20: api.Cut, 21: api.Cut} {
		if r, _ := warp.Fair(p, wide(1, 0), rounds); r.Kind != want || len(r.Trace) != min(rounds, 20) {
			t.Errorf("%d rounds: %s", rounds, tell(r))
		}
	}
}
