package worker_test

import (
	"slices"
	"testing"

	"horizon/api"
	"horizon/worker"
)

// sprays is a part that sends, by its data, a row of events: one to each of the parts that the data's digits name, the last digit first, each a unit of time later, from 5 on. A digit 9 ends the row, and the data of what it sends is 9: nothing more.
const sprays = `kind k
type T {
  var n
  on k(x) {
    n = n + 1
    let rest = x
    let later = 5
    while rest % 10 != 9 {
      send k(9) to rest % 10 after later
      rest = rest / 10
      later = later + 1
    }
  }
}
place t[3] : T
`

// sprayed is a plan of sprays.
func sprayed(t *testing.T, rest string) api.Plan {
	t.Helper()
	return scenario(t, sprays+"look 5 "+rest)
}

// inWork is a team in which every worker is about to work in window 1.
func inWork(t *testing.T, p api.Plan, l api.Layout) *worker.Team {
	t.Helper()
	team := made(t, p, l)
	until(t, team, l.Workers, api.PhWork)
	return team
}

// 13.4: PhLow is a reduction's steps, the first of them with the entering: the leaf tells, the root hears and tells and is through, the leaf hears and is through.
func TestLowSteps(t *testing.T) {
	team := made(t, adds(2, 9), two())
	steps(t, team, 0, api.PhDrain, api.PhLow, api.PhLow, api.PhLow)
	wantView(t, team, 0, api.PhLow, 1, 0, 0, firstAdd, "", "")
	steps(t, team, 1, api.PhDrain, api.PhLow)
	steps(t, team, 0, api.PhLow)
	wantView(t, team, 0, api.PhLow, 1, 0, 0, firstAdd, "", "")
	steps(t, team, 0, api.PhLow)
	wantView(t, team, 0, api.PhWork, 1, 2, 0, firstAdd, "", "")
	wantView(t, team, 1, api.PhLow, 1, 0, 0, secondAdd, "", "")
	steps(t, team, 1, api.PhLow)
	wantView(t, team, 1, api.PhLow, 1, 0, 0, secondAdd, "", "")
	steps(t, team, 1, api.PhLow)
	wantView(t, team, 1, api.PhWork, 1, 2, 0, secondAdd, "", "")
	// Worker 1 has nothing below the bound: one step in PhWork.
	steps(t, team, 1, api.PhWork)
	wantView(t, team, 1, api.PhFail, 1, 2, 0, secondAdd, "", "")
	steps(t, team, 1, api.PhFail, api.PhFail, api.PhFail)
	steps(t, team, 0, api.PhWork, api.PhWork, api.PhFail, api.PhFail)
	wantView(t, team, 0, api.PhCount, 1, 2, 0, "", firstAdd, "")
	steps(t, team, 1, api.PhFail, api.PhFail)
	wantView(t, team, 1, api.PhCount, 1, 2, 0, secondAdd, "", "")
	steps(t, team, 1, api.PhCount, api.PhCount)
	steps(t, team, 0, api.PhCount, api.PhCount)
	wantView(t, team, 0, api.PhDrain, 2, 2, 0, "", firstAdd, "")
	wantView(t, team, 1, api.PhCount, 1, 2, 0, secondAdd, "", "")
	steps(t, team, 1, api.PhCount, api.PhCount)
	wantView(t, team, 1, api.PhDrain, 2, 2, 0, secondAdd, "", "")
}

// 13.4: a worker of three hears both children, one a step; those without parts take one step in PhWork.
func TestThreeWorkers(t *testing.T) {
	team := made(t, adds(2, 9), layout(3, 2, 2))
	for w := range 3 {
		steps(t, team, w, api.PhDrain)
	}
	steps(t, team, 0, api.PhLow)
	steps(t, team, 1, api.PhLow)
	steps(t, team, 2, api.PhLow)
	steps(t, team, 0, api.PhLow, api.PhLow, api.PhLow)
	wantView(t, team, 0, api.PhWork, 1, 2, 0, "", "", "")
	steps(t, team, 0, api.PhWork)
	wantView(t, team, 0, api.PhFail, 1, 2, 0, "", "", "")
	steps(t, team, 2, api.PhLow, api.PhLow, api.PhWork, api.PhWork)
	wantView(t, team, 2, api.PhFail, 1, 2, 0, secondAdd, firstAdd, "")
	steps(t, team, 1, api.PhLow, api.PhLow, api.PhWork)
	wantView(t, team, 1, api.PhFail, 1, 2, 0, "", "", "")
}

// 13.4: PhDrain takes what all have sent in the window ahead, in the order of keys, though some were faster; what is sent to a part of one's own is in the queue at once.
func TestDrain(t *testing.T) {
	p := sprayed(t, "end 50 start k(9201) to t[0] at 2 start k(9012) to t[1] at 0 start k(92) to t[1] at 1 start k(9) to t[2] at 30")
	team := inWork(t, p, layout(3, 0, 1, 2))
	steps(t, team, 0, api.PhWork)
	wantView(t, team, 0, api.PhWork, 1, 5, 0, "8.0.2>0:0=9", "2.0.0>0:0=9201", "")
	steps(t, team, 1, api.PhWork, api.PhWork)
	wantView(t, team, 1, api.PhWork, 1, 5, 0, "6.1.3>1:0=9", "0.1.0>1:0=9012 1.1.1>1:0=92", "")
	until(t, team, 3, api.PhDrain)
	wantView(t, team, 2, api.PhDrain, 2, 5, 0, "30.2.0>2:0=9", "", "")
	steps(t, team, 2, api.PhDrain)
	wantView(t, team, 2, api.PhLow, 2, 5, 0, "5.1.2>2:0=9 6.1.5>2:0=9 9.0.3>2:0=9 30.2.0>2:0=9", "", "")
	steps(t, team, 1, api.PhDrain)
	wantView(t, team, 1, api.PhLow, 2, 5, 0, "6.1.3>1:0=9 7.0.1>1:0=9", "0.1.0>1:0=9012 1.1.1>1:0=92", "")
	steps(t, team, 0, api.PhDrain)
	wantView(t, team, 0, api.PhLow, 2, 5, 0, "7.1.4>0:0=9 8.0.2>0:0=9", "2.0.0>0:0=9201", "")
	until(t, team, 3, api.PhWork)
	wantView(t, team, 2, api.PhWork, 2, 10, 3, "5.1.2>2:0=9 6.1.5>2:0=9 9.0.3>2:0=9 30.2.0>2:0=9", "", "")
}

// 13.3, 13.4: no room in PhDrain: those ahead are taken, that one and those behind it are lost; the window ahead had no room, and all take it back.
func TestNoRoomInDrain(t *testing.T) {
	p := sprayed(t, "end 50 start k(9) to t[0] at 1 start k(9222) to t[0] at 7 start k(9) to t[2] at 30 start k(9) to t[2] at 31")
	l := tight(layout(3, 0, 1, 2), 3, 9, 9)
	team := inWork(t, p, l)
	until(t, team, 3, api.PhDrain)
	until(t, team, 3, api.PhWork)
	until(t, team, 3, api.PhDrain)
	steps(t, team, 2, api.PhDrain)
	wantView(t, team, 2, api.PhLow, 3, 12, 1, "12.0.2>2:0=9 30.2.0>2:0=9 31.2.1>2:0=9", "", "")
	wantCode(t, team, 2, api.ErrNoRoom, key(13, 0, 3))
	steps(t, team, 0, api.PhDrain)
	wantCode(t, team, 0, api.OK, api.Key{})
	wantView(t, team, 0, api.PhLow, 3, 12, 1, "", "7.0.1>0:0=9222", "1.0.0>0:0=9")
	r := toEnd(t, team, 3)
	wantEnd(t, "no room in the drain", r, api.Resource, api.ErrNoRoom, api.Key{}, 2, "1.0.0>0:0=9", 1, 0, 0)
	wantView(t, team, 0, api.PhOver, 3, 12, 1, "", "", "1.0.0>0:0=9")
	wantView(t, team, 2, api.PhOver, 3, 12, 1, "12.0.2>2:0=9 30.2.0>2:0=9 31.2.1>2:0=9", "", "")
	wantCode(t, team, 0, api.OK, api.Key{})
	wantCode(t, team, 2, api.ErrNoRoom, key(13, 0, 3))
	if r.States[0].Sent != 2 {
		t.Errorf("part 0 has sent %d", r.States[0].Sent)
	}
	// Room for one event more is not enough, room for two is.
	l.Arena = 4
	wantEnd(t, "room for four", toEnd(t, made(t, p, l), 3), api.Resource, api.ErrNoRoom, api.Key{}, 2, "1.0.0>0:0=9", 1, 0, 0)
	l.Arena = 5
	if r := toEnd(t, made(t, p, l), 3); r.Kind != api.Done || len(r.Trace) != 7 {
		t.Errorf("room for five: %s", tellResult(r))
	}
}

// 13.4: no room in the worker's own queue: the executed event has left it first; what had room is there, what is behind is lost.
func TestNoRoomInQueue(t *testing.T) {
	p := sprayed(t, "end 50 start k(91000) to t[0] at 0 start k(9) to t[0] at 40")
	l := tight(layout(2, 0, 1, 1), 3, 9, 9)
	team := inWork(t, p, l)
	steps(t, team, 0, api.PhWork)
	wantView(t, team, 0, api.PhFail, 1, 5, 0, "5.0.2>0:0=9 6.0.3>0:0=9 40.0.1>0:0=9", "0.0.0>0:0=91000", "")
	wantCode(t, team, 0, api.ErrNoRoom, key(0, 0, 0))
	wantEnd(t, "no room in the queue", toEnd(t, team, 2), api.Resource, api.ErrNoRoom, api.Key{}, 1, "", 0, 0, 0)
	wantView(t, team, 0, api.PhOver, 1, 5, 0, "5.0.2>0:0=9 6.0.3>0:0=9 40.0.1>0:0=9", "", "")
	wantCode(t, team, 1, api.OK, api.Key{})
	l.Arena = 4
	if r := toEnd(t, made(t, p, l), 2); r.Kind != api.Done || len(r.Trace) != 6 {
		t.Errorf("with room: %s", tellResult(r))
	}
	// Events from End on take room like all others.
	p.End = 5
	l.Arena = 3
	wantEnd(t, "behind the end", toEnd(t, made(t, p, l), 2), api.Resource, api.ErrNoRoom, api.Key{}, 1, "", 0, 0, 0)
}

// 13.4: no room in a box: what went elsewhere ahead of it is there, what is behind it is lost, to whomever it was sent; a box of another worker has room of its own.
func TestNoRoomInBox(t *testing.T) {
	p := sprayed(t, "end 50 start k(901120) to t[0] at 0 start k(9) to t[0] at 3")
	l := tight(layout(3, 0, 1, 2), 9, 1, 9)
	team := inWork(t, p, l)
	steps(t, team, 0, api.PhWork)
	wantView(t, team, 0, api.PhFail, 1, 5, 0, "3.0.1>0:0=9 5.0.2>0:0=9", "0.0.0>0:0=901120", "")
	wantCode(t, team, 0, api.ErrNoRoom, key(0, 0, 0))
	wantEnd(t, "no room in the box", toEnd(t, team, 3), api.Resource, api.ErrNoRoom, api.Key{}, 1, "", 0, 0, 0)
	l.Box = 2
	if r := toEnd(t, made(t, p, l), 3); r.Kind != api.Done || len(r.Trace) != 7 {
		t.Errorf("with room: %s", tellResult(r))
	}
	// All events of a window share the box; each window has its own room; what is sent the other way does not count.
	p = sprayed(t, "end 50 start k(91) to t[0] at 0 start k(91) to t[0] at 10 start k(90) to t[1] at 0")
	l.Box = 1
	if r := toEnd(t, made(t, p, l), 3); r.Kind != api.Done || len(r.Trace) != 6 {
		t.Errorf("one a window: %s", tellResult(r))
	}
	p.Starts[1].Time = 4
	team = inWork(t, p, l)
	steps(t, team, 0, api.PhWork, api.PhWork)
	wantView(t, team, 0, api.PhFail, 1, 5, 0, "", "0.0.0>0:0=91 4.0.1>0:0=91", "")
	wantCode(t, team, 0, api.ErrNoRoom, key(4, 0, 1))
	wantEnd(t, "two in a window", toEnd(t, team, 3), api.Resource, api.ErrNoRoom, api.Key{}, 1, "", 0, 0, 0)
	// What two parts of one worker send to another lies in one box.
	p.Starts[1] = api.Start{Time: 4, Dst: 2, Data: 91}
	wantEnd(t, "two parts, one box", toEnd(t, made(t, p, tight(layout(2, 0, 1, 0), 9, 1, 9)), 2), api.Resource, api.ErrNoRoom, api.Key{}, 1, "", 0, 0, 0)
	if r := toEnd(t, made(t, p, l), 3); r.Kind != api.Done {
		t.Errorf("two parts, two boxes: %s", tellResult(r))
	}
}

// fails is a part that counts, and fails at the data 9.
const fails = `kind k type T { var n on k(x) { n = n + 1 if x == 9 { fail 0 } } } place t[3] : T look 5 end 50 `

// 13.4: a handler that fails: nothing was done, the event stays; all agree on the least failure, and what is behind it is taken back, also by those who have not failed.
func TestFault(t *testing.T) {
	p := scenario(t, fails+"start k(1) to t[0] at 0 start k(2) to t[0] at 3 start k(1) to t[1] at 1 start k(9) to t[1] at 2 start k(8) to t[1] at 2 start k(9) to t[2] at 4")
	team := inWork(t, p, layout(3, 0, 1, 2))
	steps(t, team, 1, api.PhWork, api.PhWork)
	wantView(t, team, 1, api.PhFail, 1, 5, 0, "2.1.1>1:0=9 2.1.2>1:0=8", "1.1.0>1:0=1", "")
	wantCode(t, team, 1, api.FaultUser, key(2, 1, 1))
	if words := firstWords(team.States()); !slices.Equal(words, []int64{0, 1, 0}) {
		t.Errorf("the words are %v", words)
	}
	steps(t, team, 2, api.PhWork)
	wantCode(t, team, 2, api.FaultUser, key(4, 2, 0))
	steps(t, team, 0, api.PhWork, api.PhWork, api.PhWork)
	wantView(t, team, 0, api.PhFail, 1, 5, 0, "", "0.0.0>0:0=1 3.0.1>0:0=2", "")
	r := toEnd(t, team, 3)
	wantEnd(t, "the least failure", r, api.Fault, api.FaultUser, key(2, 1, 1), 0, "0.0.0>0:0=1 1.1.0>1:0=1", 1, 1, 0)
	wantView(t, team, 0, api.PhOver, 1, 5, 0, "", "0.0.0>0:0=1", "")
	wantView(t, team, 1, api.PhOver, 1, 5, 0, "2.1.1>1:0=9 2.1.2>1:0=8", "1.1.0>1:0=1", "")
	wantView(t, team, 2, api.PhOver, 1, 5, 0, "4.2.0>2:0=9", "", "")
	wantCode(t, team, 0, api.OK, api.Key{})
	wantCode(t, team, 2, api.FaultUser, key(4, 2, 0))
	// A failure that is reached only in a later window: what is committed stays.
	p.Starts[3].Time, p.Starts[4].Time, p.Starts[5].Time = 20, 21, 22
	team = made(t, p, layout(3, 0, 1, 2))
	wantEnd(t, "a later failure", toEnd(t, team, 3), api.Fault, api.FaultUser, key(20, 1, 1), 0, "0.0.0>0:0=1 1.1.0>1:0=1 3.0.1>0:0=2", 2, 1, 0)
	wantView(t, team, 0, api.PhOver, 2, 25, 3, "", "", "0.0.0>0:0=1 3.0.1>0:0=2")
}

// 13.4: each fault of the machine is told as it is.
func TestFaultCodes(t *testing.T) {
	for _, c := range []struct {
		body string
		want api.Errno
	}{
		{"while 1 { }", api.FaultFuel}, {"n = 1 / x", api.FaultDivide}, {"n = 1 << (x - 1)", api.FaultShift},
		{"send k(0) to 7 after 5", api.FaultTarget}, {"send k(0) to me after 4", api.FaultDelay}, {"n = roll(x)", api.FaultRoll},
		{"while x < 17 { send k(0) to me after 5 n = n + 1 if n == 17 { return } }", api.FaultOut}, {"fail 3", api.FaultUser},
	} {
		p := scenario(t, "kind k type T { var n on k(x) { "+c.body+" } } place t[2] : T look 5 end 50 start k(0) to t[1] at 7")
		team := made(t, p, layout(2, 1, 0))
		wantEnd(t, c.body, toEnd(t, team, 2), api.Fault, c.want, key(7, 1, 0), 0, "", 0, 0)
		wantCode(t, team, 0, c.want, key(7, 1, 0))
	}
}

// 13.4: somebody has no room, another a failure in the same window: Resource, whichever key is the smaller.
func TestNoRoomAheadOfFault(t *testing.T) {
	for _, at := range []uint64{0, 4} {
		p := scenario(t, fails+"start k(1) to t[0] at 1 start k(1) to t[0] at 2 start k(9) to t[1] at 3")
		p.Starts[2].Time = at
		team := made(t, p, tight(layout(2, 0, 1, 1), 9, 9, 1))
		wantEnd(t, at, toEnd(t, team, 2), api.Resource, api.ErrNoRoom, api.Key{}, 1, "", 0, 0, 0)
		wantCode(t, team, 0, api.ErrNoRoom, key(2, 0, 1))
		wantCode(t, team, 1, api.FaultUser, key(at, 1, 0))
	}
}

// 13.4: PhWork asks whether r events are executed, then whether the undo log has room, and only then the handler.
func TestWorkAsksInOrder(t *testing.T) {
	p := scenario(t, fails+"start k(1) to t[0] at 1 start k(9) to t[0] at 2")
	l := tight(layout(1, 0, 0, 0), 9, 9, 1)
	team := inWork(t, p, l)
	steps(t, team, 0, api.PhWork, api.PhWork)
	wantCode(t, team, 0, api.ErrNoRoom, key(2, 0, 1))
	p.Budget = 1
	team = inWork(t, p, l)
	steps(t, team, 0, api.PhWork, api.PhWork)
	wantView(t, team, 0, api.PhFail, 1, 6, 0, "2.0.1>0:0=9", "1.0.0>0:0=1", "")
	wantCode(t, team, 0, api.OK, api.Key{})
	wantEnd(t, "the budget", toEnd(t, team, 1), api.Cut, api.OK, api.Key{}, 0, "1.0.0>0:0=1", 1, 0, 0)
	p.Budget, l.Undo = 9, 2
	wantEnd(t, "the handler", toEnd(t, made(t, p, l), 1), api.Fault, api.FaultUser, key(2, 0, 1), 0, "1.0.0>0:0=1", 1, 0, 0)
}

// 13.4: what PhCount makes of the count, with a failure and without one.
func TestCount(t *testing.T) {
	starts := "start k(1) to t[0] at 0 start k(1) to t[0] at 2 start k(1) to t[1] at 1 start k(1) to t[2] at 4 start k(1) to t[2] at 60"
	failing := starts + " start k(9) to t[1] at 3"
	trace := "0.0.0>0:0=1 1.1.0>1:0=1 2.0.1>0:0=1 4.2.0>2:0=1"
	for _, c := range []struct {
		name, starts string
		budget       int
		shows        bool
		kind         int
		code         api.Errno
		at           api.Key
		trace        string
		words        []int64
	}{
		{"below r", starts, 5, false, api.Done, api.OK, api.Key{}, trace, []int64{2, 1, 1}},
		{"just r", starts, 4, false, api.Done, api.OK, api.Key{}, trace, []int64{2, 1, 1}},
		{"one above r", starts, 3, true, api.Cut, api.OK, api.Key{}, trace[:35], []int64{2, 1, 0}},
		{"two above r", starts, 2, true, api.Cut, api.OK, api.Key{}, trace[:23], []int64{1, 1, 0}},
		{"three above r", starts, 1, true, api.Cut, api.OK, api.Key{}, trace[:11], []int64{1, 0, 0}},
		{"a failure, below r", failing, 4, false, api.Fault, api.FaultUser, key(3, 1, 1), trace[:35], []int64{2, 1, 0}},
		{"a failure, just r", failing, 3, true, api.Cut, api.OK, api.Key{}, trace[:35], []int64{2, 1, 0}},
		{"a failure, above r", failing, 2, true, api.Cut, api.OK, api.Key{}, trace[:23], []int64{1, 1, 0}},
	} {
		p := scenario(t, fails+c.starts)
		p.Budget = c.budget
		team := made(t, p, layout(3, 0, 1, 2))
		shown := false
		for at := 0; !team.Over(); at++ {
			phase, _ := team.Step(at % 3)
			shown = shown || phase == api.PhShow
		}
		if shown != c.shows {
			t.Errorf("%s: PhShow %v", c.name, shown)
		}
		wantEnd(t, c.name, team.Result(), c.kind, c.code, c.at, 0, c.trace, c.words...)
	}
}

// 13.4: r is what earlier windows have left of the budget.
func TestChooseInALaterWindow(t *testing.T) {
	p := scenario(t, fails+"budget 4 start k(1) to t[0] at 0 start k(2) to t[1] at 1 start k(3) to t[1] at 10 start k(4) to t[2] at 11 start k(5) to t[0] at 12 start k(6) to t[2] at 13")
	team := made(t, p, layout(3, 0, 1, 2))
	until(t, team, 3, api.PhShow)
	wantView(t, team, 0, api.PhShow, 2, 15, 2, "", "12.0.1>0:0=5", "0.0.0>0:0=1")
	wantView(t, team, 2, api.PhShow, 2, 15, 2, "", "11.2.0>2:0=4 13.2.1>2:0=6", "")
	wantEnd(t, "a choice", toEnd(t, team, 3), api.Cut, api.OK, api.Key{}, 0, "0.0.0>0:0=1 1.1.0>1:0=2 10.1.1>1:0=3 11.2.0>2:0=4", 1, 2, 1)
	wantView(t, team, 0, api.PhOver, 2, 15, 2, "", "", "0.0.0>0:0=1")
	wantView(t, team, 1, api.PhOver, 2, 15, 2, "", "10.1.1>1:0=3", "1.1.0>1:0=2")
	wantView(t, team, 2, api.PhOver, 2, 15, 2, "", "11.2.0>2:0=4", "")
}

// 13.4: a worker executes at most r events, though more are below its bound; of keys with equal times the sender's number and the event's number tell.
func TestEqualTimes(t *testing.T) {
	p := scenario(t, fails+"budget 3 start k(1) to t[0] at 7 start k(2) to t[0] at 7 start k(3) to t[0] at 7 start k(4) to t[0] at 7 start k(5) to t[1] at 7 start k(6) to t[2] at 6")
	team := made(t, p, layout(2, 0, 1, 1))
	until(t, team, 2, api.PhFail)
	wantView(t, team, 0, api.PhFail, 1, 11, 0, "7.0.3>0:0=4", "7.0.0>0:0=1 7.0.1>0:0=2 7.0.2>0:0=3", "")
	wantView(t, team, 1, api.PhFail, 1, 11, 0, "", "6.2.0>2:0=6 7.1.0>1:0=5", "")
	wantEnd(t, "equal times", toEnd(t, team, 2), api.Cut, api.OK, api.Key{}, 0, "6.2.0>2:0=6 7.0.0>0:0=1 7.0.1>0:0=2", 2, 0, 1)
}

// 13.4: Done is asked for ahead of Cut; the end is not executed, and the bound does not go beyond it, nor beyond 64 bits.
func TestEnd(t *testing.T) {
	p := adds(5, 1)
	p.Starts[1].Time = 10
	wantEnd(t, "Done ahead of Cut", toEnd(t, made(t, p, two()), 2), api.Done, api.OK, api.Key{}, 0, firstAdd, 5, 0)
	p = adds(5, 0)
	p.End = 0
	wantEnd(t, "no time at all", toEnd(t, made(t, p, two()), 2), api.Done, api.OK, api.Key{}, 0, "", 0, 0)
	p = adds(50, 9)
	team := inWork(t, p, two())
	wantView(t, team, 0, api.PhWork, 1, 10, 0, firstAdd, "", "")
	p.Starts[1].Time = 9
	p.Starts[0].Time = 10
	wantEnd(t, "the last time", toEnd(t, made(t, p, two()), 2), api.Done, api.OK, api.Key{}, 0, "9.1.0>1:0=7", 0, 7)
	p = adds(50, 9)
	p.End, p.Starts[0].Time, p.Starts[1].Time = most, most-10, most-1
	team = inWork(t, p, two())
	wantView(t, team, 1, api.PhWork, 1, most, 0, "18446744073709551614.1.0>1:0=7", "", "")
	if r := toEnd(t, team, 2); r.Kind != api.Done || len(r.Trace) != 2 {
		t.Errorf("at the end of time: %s", tellResult(r))
	}
	p.Starts[1].Time = most
	if r := toEnd(t, made(t, p, two()), 2); r.Kind != api.Done || len(r.Trace) != 1 {
		t.Errorf("at the last time: %s", tellResult(r))
	}
}

// 13.4: each handler is run on its own part's state, with the plan's Look and Fuel and the number of its parts, by whomever it is owned.
func TestHandlerCalls(t *testing.T) {
	p := scenario(t, `seed 3 look 6 end 60 fuel 60 kind a, b
type S { var n = 4 var row[3] = 7 on a(x) { row[x % 3] = row[x % 3] + now + from n = roll(100) send b(n) to (me + 1) % 5 after 6 + roll(4) } on b(x) { n = n + x send a(x) to 4 - me after 6 } }
type U { var w on b(x) { w = w * 3 + x + me send a(x) to roll(5) after 6 } on a(x) { w = w + 1 send a(x + 1) to 0 after 7 } }
place s[3] : S
place u[2] : U
start a(1) to s at 0
start b(2) to u[1] at 2`)
	want, _ := inWindows(p, layout(1, 0, 0, 0, 0, 0))
	if want.Kind != api.Done || len(want.Trace) < 30 {
		t.Fatalf("the run is another: %s", tellResult(want))
	}
	for _, owner := range [][]int{{0, 0, 0, 0, 0}, {4, 3, 2, 1, 0}, {1, 0, 1, 0, 1}, {2, 2, 0, 2, 2}, {0, 1, 1, 0, 4}} {
		wantResult(t, owner, toEnd(t, made(t, p, layout(5, owner...)), 5), want)
	}
}
