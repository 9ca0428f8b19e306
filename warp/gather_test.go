package warp_test

import (
	"testing"

	"horizon/api"
	"horizon/seqrun"
	"horizon/warp"
)

// relay: who gets hop sends it on to the part ahead, after 10; part 3 is asked early, by the part 4, for a hop that comes late.
const relay = `look 1 end 99 kind hop, call
type T { var n on hop(x) { n = n * 2 + x + 1 if me > 0 { send hop(x) to me - 1 after 10 } } on call(x) { send hop(x) to 3 after 1 } }
place t[5] : T
start hop(1) to t[3] at 20
start call(2) to t[4] at 0
`

// 18.3: Gather takes in mail until there is none: what is undone by it sends anti-events to workers that had their turn already.
func TestMailRoundAndRound(t *testing.T) {
	p := scenario(t, relay)
	l := wide(5, 0, 1, 2, 3, 4)
	team := made(t, p, l)
	for w := 3; w >= 0; w-- {
		steps(t, team, w, api.WarpRan) // the hop of 20 runs ahead to part 0
	}
	steps(t, team, 4, api.WarpRan) // at 0, and has sent a hop at 1 to part 3
	wantView(t, team, 0, "|50.1.0||0 0")
	wantView(t, team, 3, "|20.3.0|1.4.1|0 0")
	gathers(t, team, 1)
	wantLow(t, team, "1.4.1", true)
	wantView(t, team, 0, "|||1 0")
	wantView(t, team, 1, "|||1 1")
	wantView(t, team, 2, "|||1 1")
	wantView(t, team, 3, "1.4.1 20.3.0|||1 1")
	wantView(t, team, 4, "|||0 0")
	wantOpen(t, team, "0.4.0", 0, 0, 0, 0, 0)

	// The other way round: each worker's mail comes ahead of its turn.
	for part := range l.Owner {
		l.Owner[part] = 4 - part
	}
	team = made(t, p, l)
	for w := 1; w <= 4; w++ {
		steps(t, team, w, api.WarpRan)
	}
	steps(t, team, 0, api.WarpRan)
	gathers(t, team, 1)
	wantLow(t, team, "1.4.1", true)
	wantView(t, team, 4, "|||1 0")
	wantView(t, team, 1, "1.4.1 20.3.0|||1 1")
	r, err := warp.Fair(p, l, warp.Enough(p, l))
	wantAnswer(t, "by turns", r, err, seqrun.Run(p))
}

// 18.3: what lies below the global virtual time is committed, of all workers in the order of keys; what lies above stays in its Done.
func TestCommit(t *testing.T) {
	p := scenario(t, `look 1 end 99 kind k type T { var n on k(x) { n = n * 10 + x } } place t[4] : T
start k(1) to t[0] at 8 start k(2) to t[0] at 2 start k(3) to t[1] at 5 start k(4) to t[1] at 7 start k(5) to t[2] at 2 start k(6) to t[2] at 9 start k(7) to t[3] at 6`)
	team := made(t, p, wide(3, 0, 1, 0, 2))
	steps(t, team, 0, api.WarpRan, api.WarpRan, api.WarpRan, api.WarpRan, api.WarpIdle)
	wantView(t, team, 0, "|2.0.1 2.2.0 8.0.0 9.2.1||0 0")
	gathers(t, team, 2)
	wantLow(t, team, "5.1.0", true)
	wantView(t, team, 0, "|8.0.0 9.2.1||0 0")
	wantOpen(t, team, "2.0.1 2.2.0", 2, 0, 5, 0)
	gathers(t, team, 0)
	steps(t, team, 2, api.WarpRan)
	steps(t, team, 1, api.WarpRan)
	gathers(t, team, 2)
	wantLow(t, team, "7.1.1", true)
	wantView(t, team, 1, "7.1.1|||0 0")
	wantView(t, team, 2, "|||0 0")
	wantOpen(t, team, "2.0.1 2.2.0 5.1.0 6.3.0", 2, 3, 5, 7)
	steps(t, team, 1, api.WarpRan)
	gathers(t, team, 3)
	wantLow(t, team, "0.0.0", false)
	wantEnd(t, "over", team.Result(), api.Done, api.OK, api.Key{}, "2.0.1 2.2.0 5.1.0 6.3.0 7.1.1 8.0.0 9.2.1", 21, 34, 56, 7)
	refused(t, team, 3)
}

// 18.3: keys, not times, tell what lies below: of two events at one time the one of the smaller part goes first.
func TestCommitAtOneTime(t *testing.T) {
	p := scenario(t, `look 1 end 9 kind k type T { var n on k(x) { n = x } } place t[3] : T start k(1) to t at 4`)
	team := made(t, p, wide(3, 0, 1, 2))
	steps(t, team, 0, api.WarpRan)
	steps(t, team, 2, api.WarpRan)
	gathers(t, team, 1)
	wantLow(t, team, "4.1.0", true)
	wantOpen(t, team, "4.0.0", 1, 0, 0)
	wantView(t, team, 2, "|4.2.0||0 0")
	steps(t, team, 1, api.WarpRan)
	gathers(t, team, 2)
	wantEnd(t, "over", team.Result(), api.Done, api.OK, api.Key{}, "4.0.0 4.1.0 4.2.0", 1, 1, 1)
}

// 18.3: a Gather ahead of all steps commits nothing, and the run goes on.
func TestGatherFirst(t *testing.T) {
	team := made(t, exchange(), two(9))
	gathers(t, team, 0)
	gathers(t, team, 0)
	wantLow(t, team, "0.0.0", true)
	wantOpen(t, team, "", 0, 0)
	wantView(t, team, 0, "0.0.0|||0 0")
	wantView(t, team, 1, "9.1.0|||0 0")
}

// 18.3, 18.4: events from End on count for the global virtual time; a run whose last pending events they are is Done.
func TestPendingFromEndOn(t *testing.T) {
	team := made(t, exchange(end(10)), two(9))
	steps(t, team, 0, api.WarpRan)
	steps(t, team, 1, api.WarpRan, api.WarpRan) // 5.0.1, 9.1.0; they have sent 10.1.1 and 14.1.2
	gathers(t, team, 3)
	wantLow(t, team, "10.1.1", true)
	wantEnd(t, "over", team.Result(), api.Done, api.OK, api.Key{}, "0.0.0 5.0.1 9.1.0", 1, 2)
	wantView(t, team, 0, "10.1.1 14.1.2|||0 0")
	// A handler from End on that would fail is not looked at.
	team = made(t, exchange(fuel(10), end(0)), two(9))
	gathers(t, team, 0)
	wantEnd(t, "all from End on", team.Result(), api.Done, api.OK, api.Key{}, "", 0, 0)
	wantLow(t, team, "0.0.0", true)
}

// 18.3: the budget is used up in the middle of what is certain: what is left is dropped, its parts have the states ahead of it, and it is not pending again; Back and Anti don't grow.
func TestCutInTheMiddle(t *testing.T) {
	for _, c := range []struct {
		budget int
		trace  string
		words  [2]int64
	}{
		{0, "", [2]int64{0, 0}},
		{1, "0.0.0", [2]int64{1, 0}},
		{2, "0.0.0 5.0.1", [2]int64{1, 1}},
		{3, "0.0.0 5.0.1 9.1.0", [2]int64{1, 2}},
	} {
		team := made(t, exchange(budget(c.budget)), two(9))
		steps(t, team, 1, api.WarpRan)
		steps(t, team, 0, api.WarpRan)
		steps(t, team, 1, api.WarpRan, api.WarpRan)
		wantView(t, team, 1, "|5.0.1 9.1.0||1 1")
		gathers(t, team, c.budget)
		wantLow(t, team, "10.1.1", true)
		wantEnd(t, c.budget, team.Result(), api.Cut, api.OK, api.Key{}, c.trace, c.words[0], c.words[1])
		wantResult(t, c.budget, team.Result(), seqrun.Run(exchange(budget(c.budget))))
		refused(t, team, 2)
		wantView(t, team, 0, "10.1.1 14.1.2|||0 0")
		wantView(t, team, 1, "|||1 1")
	}
	// With one more than that the run goes on.
	team := made(t, exchange(budget(4)), two(9))
	steps(t, team, 0, api.WarpRan)
	steps(t, team, 1, api.WarpRan, api.WarpRan)
	gathers(t, team, 3)
	wantOpen(t, team, "0.0.0 5.0.1 9.1.0", 1, 2)
}

// 18.3: a budget that is just enough: nothing is left, and the run is Done; and Cut, if there is something left in a Done, or pending, also where its handler would fail.
func TestJustEnough(t *testing.T) {
	p := scenario(t, `look 1 end 9 budget 2 kind k, bad type T { var n on k(x) { n = n + x } on bad(x) { fail 1 } } place t : T start k(1) to t at 1 start k(2) to t at 2`)
	team := made(t, p, wide(1, 0))
	steps(t, team, 0, api.WarpRan, api.WarpRan)
	gathers(t, team, 2)
	wantLow(t, team, "0.0.0", false)
	wantEnd(t, "just enough", team.Result(), api.Done, api.OK, api.Key{}, "1.0.0 2.0.1", 3)

	p.Budget = 1
	team = made(t, p, wide(1, 0))
	steps(t, team, 0, api.WarpRan, api.WarpRan)
	gathers(t, team, 1)
	wantLow(t, team, "0.0.0", false)
	wantEnd(t, "left in Done", team.Result(), api.Cut, api.OK, api.Key{}, "1.0.0", 1)
	wantView(t, team, 0, "|||0 0")

	p.Starts[1].Kind = 1
	team = made(t, p, wide(1, 0))
	steps(t, team, 0, api.WarpRan, api.WarpStuck)
	gathers(t, team, 1)
	wantLow(t, team, "2.0.1", true)
	wantEnd(t, "left to fail", team.Result(), api.Cut, api.OK, api.Key{}, "1.0.0", 1)

	p.Budget = 2
	team = made(t, p, wide(1, 0))
	steps(t, team, 0, api.WarpRan, api.WarpStuck)
	gathers(t, team, 1)
	wantEnd(t, "it fails", team.Result(), api.Fault, api.FaultUser, key(2, 0, 1), "1.0.0", 1)
	wantView(t, team, 0, "2.0.1|||0 0")
}

// 18.3: a handler that fails ends the run only when nothing can come ahead of it; what others have run ahead is dropped then.
func TestFault(t *testing.T) {
	p := scenario(t, gate)
	team := made(t, p, wide(2, 0, 1))
	steps(t, team, 1, api.WarpStuck)
	gathers(t, team, 0) // part 0 may still do something at 0
	wantOpenOf(t, team, "")
	steps(t, team, 0, api.WarpRan)
	gathers(t, team, 1)
	wantLow(t, team, "2.1.0", true)
	r := team.Result()
	wantResult(t, "over", r, seqrun.Run(p))
	if r.Kind != api.Fault || r.Code != api.FaultUser || r.At != key(2, 1, 0) || keys(r.Trace) != "0.0.0" {
		t.Errorf("the result is\n%s", tell(r))
	}
	wantView(t, team, 1, "2.1.0 5.0.1 9.1.1 50.0.2|||0 0")
	refused(t, team, 2)

	// The first event of all fails, and the other worker has run ahead.
	p = scenario(t, `look 5 end 99 kind k, bad type T { var n on k(x) { n = n + 1 send k(x) to 1 - me after 5 } on bad(x) { fail 1 } } place t[2] : T start bad(1) to t[0] at 3 start k(2) to t[1] at 4 start k(2) to t[1] at 5`)
	team = made(t, p, wide(2, 0, 1))
	steps(t, team, 1, api.WarpRan, api.WarpRan)
	steps(t, team, 0, api.WarpStuck)
	wantView(t, team, 1, "|4.1.0 5.1.1||0 0")
	gathers(t, team, 0)
	wantEnd(t, "the first one", team.Result(), api.Fault, api.FaultUser, key(3, 0, 0), "", 0, 0)
	wantResult(t, "the first one", team.Result(), seqrun.Run(p))
	wantView(t, team, 0, "3.0.0 9.1.2 10.1.3|||0 0")
	wantView(t, team, 1, "|||0 0")
}

// wantOpenOf is a result on its way, whatever the words.
func wantOpenOf(t *testing.T, team *warp.Team, trace string) {
	t.Helper()
	if r := team.Result(); team.Over() || r.Kind != api.Unfinished || r.Code != api.ErrUnfinished || keys(r.Trace) != trace {
		t.Fatalf("the result is\n%s", tell(r))
	}
}

// 18.6: the states are those ahead of the first event of each part that is in a Done: words, dice and what it sent.
func TestResultOnTheWay(t *testing.T) {
	p := scenario(t, `seed 4 look 1 end 99 kind k type T { var n on k(x) { n = n * 100 + roll(50) + 1 send k(x) to me after 1 } } place t[2] : T start k(1) to t at 0`)
	team := made(t, p, wide(2, 0, 1))
	want := func(n int) {
		t.Helper()
		r := seqrun.Prefix(p, n)
		wantResult(t, n, team.Result(), api.Result{Kind: api.Unfinished, Code: api.ErrUnfinished, States: r.States, Trace: r.Trace})
	}
	want(0)
	steps(t, team, 0, api.WarpRan, api.WarpRan, api.WarpRan)
	want(0)
	steps(t, team, 1, api.WarpRan)
	want(0)
	gathers(t, team, 3) // 0.0.0, 0.1.0, 1.0.1; 2.0.2 is ahead of 1.1.1
	want(3)
	steps(t, team, 1, api.WarpRan, api.WarpRan, api.WarpRan)
	want(3)
	gathers(t, team, 3)
	want(6)
	want(6)
	if team.Over() {
		t.Error("asking has ended it")
	}
}

// 18.4: a Gather that is refused finds nothing anew, and forgets nothing.
func TestLowStays(t *testing.T) {
	team := made(t, exchange(), two(9))
	wantLow(t, team, "0.0.0", false)
	steps(t, team, 0, api.WarpRan)
	wantLow(t, team, "0.0.0", false)
	gathers(t, team, 1)
	wantLow(t, team, "5.0.1", true)
	steps(t, team, 1, api.WarpRan)
	wantLow(t, team, "5.0.1", true)
	for range 10 {
		team.Step(0)
		team.Step(1)
		team.Gather()
	}
	wantLow(t, team, "19.0.3", true)
	refused(t, team, 2)
	wantLow(t, team, "19.0.3", true)
}
