package warp_test

import (
	"errors"
	"testing"

	"horizon/api"
	"horizon/seqrun"
	"horizon/warp"
)

const wholeTrace = "0.0.0 5.0.1 9.1.0 10.1.1 14.1.2 15.0.2"

// Example 1: what every run of X must equal.
func TestExample1(t *testing.T) {
	wantEnd(t, "in order", seqrun.Run(exchange()), api.Done, api.OK, api.Key{}, wholeTrace, 3, 3)
}

// Examples 2 to 5, and 9 (18.1 to 18.6): one run, step by step, to its end.
func TestExamples2To5(t *testing.T) {
	team := made(t, exchange(), two(9))
	steps(t, team, 1, api.WarpRan)
	wantView(t, team, 1, "|9.1.0||0 0")
	wantView(t, team, 0, "0.0.0||14.1.1|0 0")
	steps(t, team, 0, api.WarpRan)
	wantView(t, team, 0, "14.1.1|0.0.0||0 0")
	wantView(t, team, 1, "|9.1.0|5.0.1|0 0")
	wantOpen(t, team, "", 0, 0)

	steps(t, team, 1, api.WarpRan)
	wantView(t, team, 0, "14.1.1|0.0.0|-14.1.1 10.1.1|0 0")
	wantView(t, team, 1, "9.1.0|5.0.1||1 1")

	wantLow(t, team, "0.0.0", false)
	gathers(t, team, 2)
	wantView(t, team, 0, "10.1.1|||0 0")
	wantView(t, team, 1, "9.1.0|||1 1")
	wantLow(t, team, "9.1.0", true)
	wantOpen(t, team, "0.0.0 5.0.1", 1, 1)

	steps(t, team, 0, api.WarpRan)
	steps(t, team, 1, api.WarpRan)
	wantView(t, team, 1, "15.0.2|9.1.0||1 1")
	steps(t, team, 1, api.WarpRan)
	wantView(t, team, 1, "|9.1.0 15.0.2||1 1")
	wantView(t, team, 0, "|10.1.1|14.1.2 20.1.3|0 0")
	gathers(t, team, 2)
	wantLow(t, team, "14.1.2", true)
	wantView(t, team, 0, "14.1.2 20.1.3|||0 0")
	wantView(t, team, 1, "|15.0.2||1 1")
	wantOpen(t, team, "0.0.0 5.0.1 9.1.0 10.1.1", 2, 2)

	steps(t, team, 0, api.WarpRan)
	gathers(t, team, 2)
	wantLow(t, team, "19.0.3", true)
	wantEnd(t, "at the end", team.Result(), api.Done, api.OK, api.Key{}, wholeTrace, 3, 3)
	refused(t, team, 2)
	wantLow(t, team, "19.0.3", true)
	wantView(t, team, 0, "20.1.3|||0 0")
	wantView(t, team, 1, "19.0.3|||1 1")
}

// Example 6 (18.7): turns, too few of them, and how many are enough.
func TestExample6(t *testing.T) {
	r, err := warp.Fair(exchange(), two(9), 11)
	wantAnswer(t, "11 rounds", r, err, seqrun.Run(exchange()))
	r, err = warp.Fair(exchange(), two(9), 0)
	wantEnd(t, "no round", r, api.Unfinished, api.ErrUnfinished, api.Key{}, "", 0, 0)
	if err != error(api.ErrUnfinished) {
		t.Errorf("the error is %v", err)
	}
	if n := warp.Enough(exchange(), two(9)); n != 11 {
		t.Errorf("Enough is %d", n)
	}
}

// Example 7 (18.3): budgets and fuel that are too small.
func TestExample7(t *testing.T) {
	r, err := warp.Fair(exchange(budget(3)), two(9), 4)
	wantEnd(t, "Budget 3", r, api.Cut, api.OK, api.Key{}, "0.0.0 5.0.1 9.1.0", 1, 2)
	if err != nil {
		t.Errorf("the error is %v", err)
	}
	team := made(t, exchange(budget(0)), two(9))
	gathers(t, team, 0)
	refused(t, team, 2)
	wantEnd(t, "Budget 0", team.Result(), api.Cut, api.OK, api.Key{}, "", 0, 0)
	team = made(t, exchange(budget(0), end(0)), two(9))
	gathers(t, team, 0)
	refused(t, team, 2)
	wantEnd(t, "Budget and End 0", team.Result(), api.Done, api.OK, api.Key{}, "", 0, 0)

	team = made(t, exchange(fuel(10)), two(9))
	steps(t, team, 0, api.WarpStuck, api.WarpStuck, api.WarpStuck)
	gathers(t, team, 0)
	refused(t, team, 2)
	wantEnd(t, "Fuel 10", team.Result(), api.Fault, api.FaultFuel, api.Key{}, "", 0, 0)
	r, err = warp.Fair(exchange(fuel(11)), two(9), 11)
	wantAnswer(t, "Fuel 11", r, err, seqrun.Run(exchange()))
}

// Example 8 (18.2): room for one event that may be undone.
func TestExample8(t *testing.T) {
	team := made(t, exchange(), two(1))
	steps(t, team, 0, api.WarpRan)
	steps(t, team, 1, api.WarpRan)
	wantView(t, team, 1, "9.1.0|5.0.1||0 0")
	steps(t, team, 1, api.WarpFull, api.WarpFull)
	wantView(t, team, 1, "9.1.0|5.0.1||0 0")
	gathers(t, team, 2)
	wantLow(t, team, "9.1.0", true)
	steps(t, team, 1, api.WarpRan)

	team = made(t, exchange(), two(1))
	steps(t, team, 1, api.WarpRan, api.WarpIdle)
	wantView(t, team, 1, "|9.1.0||0 0")
}

// Example 9 (18.2, 18.4, 18.5, 18.7): picks that say nothing, and workers that are not there.
func TestExample9(t *testing.T) {
	r, err := warp.Run(exchange(), two(9), []int{1, 0, 1, 2, 7, -1})
	wantEnd(t, "six picks", r, api.Unfinished, api.ErrUnfinished, api.Key{}, "0.0.0 5.0.1", 1, 1)
	if err != error(api.ErrUnfinished) {
		t.Errorf("the error is %v", err)
	}
	r, err = warp.Run(exchange(), two(9), nil)
	wantEnd(t, "no picks", r, api.Unfinished, api.ErrUnfinished, api.Key{}, "", 0, 0)
	if err != error(api.ErrUnfinished) {
		t.Errorf("the error is %v", err)
	}
	team := made(t, exchange(), two(9))
	wantLow(t, team, "0.0.0", false)
	if did, code := team.Step(2); did != 0 || code != api.ErrPick {
		t.Errorf("Step(2) is %d, %d", did, code)
	}
	if v, code := team.View(2); !sameViews(v, api.Warp{}) || code != api.ErrPick {
		t.Errorf("View(2) is %s, %d", tellView(v), code)
	}
}

// Example 10 (18.1, 18.3, 18.7): what is refused, and a plan in which nothing happens.
func TestExample10(t *testing.T) {
	if team, code := warp.New(api.Plan{}, two(9)); team != nil || code != api.ErrLook {
		t.Errorf("New of the zero plan is %v, %d", team, code)
	}
	r, err := warp.Run(api.Plan{}, two(9), []int{0, 1, 2})
	wantAnswer(t, "the zero plan", r, err, api.Result{Kind: api.Rejected, Code: api.ErrLook})
	l := two(9)
	l.Workers = 0
	if team, code := warp.New(exchange(), l); team != nil || code != api.ErrWorkers {
		t.Errorf("New without workers is %v, %d", team, code)
	}
	team := made(t, exchange(starts()), two(9))
	gathers(t, team, 0)
	refused(t, team, 2)
	wantLow(t, team, "0.0.0", false)
	wantEnd(t, "no starts", team.Result(), api.Done, api.OK, api.Key{}, "", 0, 0)
}

const shop = `look 5  end 200  budget 300  seed 7
const N = 4
kind job, done
type Shop {
  var waiting
  var busy
  var served[2]
  on job(size) {
    waiting = waiting + 1
    if busy == 0 {
      busy = 1
      send done(size) to me after 5 + roll(10)
    }
  }
  on done(size) {
    waiting = waiting - 1
    served[size % 2] = served[size % 2] + 1
    busy = 0
    if waiting > 0 { busy = 1 send done(size + 1) to me after 5 + roll(10) }
    send job(size) to shop[(me + 1) % N] after 6
  }
}
place shop[N] : Shop (waiting = 0)
start job(3) to shop[0] at 0
start job(8) to shop[2] at 4
`

// 18.8: DOC.md's examples 3 to 8, run ahead of time: the shop, the shop cut, a handler that fails, no room where none is needed, the end of time, dice.
func TestDocument(t *testing.T) {
	cutShop := "budget 5 " + shop[:len("look 5  end 200  ")] + shop[len("look 5  end 200  budget 300  "):]
	for _, c := range []struct {
		what, text string
		kind, n    int
		code       api.Errno
		at         api.Key
	}{
		{"example 3", shop, api.Done, 52, api.OK, api.Key{}},
		{"example 4", cutShop, api.Cut, 5, api.OK, api.Key{}},
		{"example 5", "look 1 end 50 kind k type T { var n = 3 on k(x) { n = n - 1 send k(60 / n) to me after 2 } } place t : T start k(0) to t at 10", api.Fault, 2, api.FaultDivide, key(14, 0, 2)},
		{"example 6", ring, api.Cut, 1000, api.OK, api.Key{}},
		{"example 7", "look 10 end 18446744073709551615 kind k type T { var last on k(x) { last = now send k(x) to me after 10 } } place t : T start k(0) to t at 18446744073709551590", api.Fault, 2, api.FaultTime, key(18446744073709551610, 0, 2)},
		{"example 8", "seed 42 look 1 end 1000 budget 4 kind k type D { var r[3] var w on k(x) { r[x] = roll(6) + 1 w = wait(100) send k((x + 1) % 3) to me after max(1, w) } } place d : D place e : D start k(0) to d at 0 start k(0) to e at 0", api.Cut, 4, api.OK, api.Key{}},
	} {
		p := scenario(t, c.text)
		for workers := 1; workers <= 4; workers++ {
			l := api.Layout{Workers: workers, Arena: 2, Box: 1, Undo: 2}
			for part := range p.Parts {
				l.Owner = append(l.Owner, part%workers)
			}
			r, err := warp.Fair(p, l, warp.Enough(p, l))
			wantAnswer(t, c.what, r, err, seqrun.Run(p))
			if r.Kind != c.kind || r.Code != c.code || r.At != c.at || len(r.Trace) != c.n {
				t.Errorf("%s: the result is\n%s", c.what, tell(r))
			}
		}
	}
}

// ring is the model of DOC.md's example 6: each event asks both other parts.
const ring = `look 2 end 50 kind k
type T { on k(x) { send k(x) to (me + 1) % 3 after 2 send k(x + 1) to (me + 2) % 3 after 3 } }
place t[3] : T
start k(0) to t[0] at 0
`

// 18.7: the error of a fault tells the event and the fault.
func TestErrorOfFault(t *testing.T) {
	r, err := warp.Fair(exchange(fuel(10)), two(9), 1)
	var at *api.KeyError
	if r.Kind != api.Fault || !errors.As(err, &at) || at.Key != (api.Key{}) || !errors.Is(err, api.FaultFuel) {
		t.Errorf("the error is %v", err)
	}
}
