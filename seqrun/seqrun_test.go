package seqrun_test

import (
	"fmt"
	"math"
	"slices"
	"strings"
	"testing"

	"horizon/api"
	"horizon/codegen"
	"horizon/seqrun"
	"horizon/stamp"
)

// 12.2: the chapter's example 2: words, dice and what is sent already; the starts are pending.
func TestFirst(t *testing.T) {
	at := first(t, clock())
	if at.States[0].Dice != 7955263204828808627 || texts(at.Pending) != "0.0.0>0:0=1 3.1.0>1:0=2" {
		t.Error(tellPoint(at))
	}
	if a, b := at.States[0], at.States[1]; !slices.Equal(a.Words, []int64{0}) || !slices.Equal(b.Words, []int64{10}) || a.Sent != 1 || b.Sent != 1 {
		t.Error(tellPoint(at))
	}
	if len(at.States) != 2 || len(at.Trace) != 0 {
		t.Error(tellPoint(at))
	}
}

// 12.2: starts are counted part by part in the order of the list, and stand in the order of keys; those from End on are there, too.
func TestFirstOrder(t *testing.T) {
	p := with(func(p *api.Plan) {
		p.Starts = []api.Start{
			{Time: 9, Dst: 1, Data: 1}, {Time: 9, Dst: 0, Data: 2}, {Time: most, Dst: 0, Data: 3},
			{Time: 2, Dst: 1, Data: 4}, {Time: 9, Dst: 0, Data: 5}, {Time: 14, Dst: 1, Data: 6}, {Time: 2, Dst: 1, Data: 7},
		}
	})
	at := first(t, p)
	want := "2.1.1>1:0=4 2.1.3>1:0=7 9.0.0>0:0=2 9.0.2>0:0=5 9.1.0>1:0=1 14.1.2>1:0=6 18446744073709551615.0.1>0:0=3"
	if texts(at.Pending) != want || at.States[0].Sent != 3 || at.States[1].Sent != 4 {
		t.Error(tellPoint(at))
	}
	p.Budget, p.End = 4096, 10
	if left := texts(pendingBehind(t, p)); !strings.Contains(left, "14.1.2>1:0=6") || !strings.HasSuffix(left, "18446744073709551615.0.1>0:0=3") {
		t.Errorf("12.2: behind the run there is %s", left)
	}
}

// 12.6: the chapter's examples 3, 6, 7 and 11.
func TestRun(t *testing.T) {
	done, all := []int64{3, 13}, []uint64{4, 4}
	wantRun(t, "Q", seqrun.Run(clock()), api.Done, api.OK, api.Key{}, clockTrace, done, all)
	for _, c := range []struct {
		name   string
		change func(p *api.Plan)
		kind   int
		code   api.Errno
		at     api.Key
		events int
		words  []int64
		sent   []uint64
	}{
		{"look 6", func(p *api.Plan) { p.Look = 6 }, api.Fault, api.FaultDelay, api.Key{}, 0, []int64{0, 10}, []uint64{1, 1}},
		{"look 6, the other first", func(p *api.Plan) { p.Look, p.Starts[0].Time = 6, 4 }, api.Fault, api.FaultDelay, api.Key{Time: 3, Src: 1}, 0, []int64{0, 10}, []uint64{1, 1}},
		{"fuel 8", func(p *api.Plan) { p.Fuel = 8 }, api.Fault, api.FaultFuel, api.Key{}, 0, []int64{0, 10}, []uint64{1, 1}},
		{"fuel 9", func(p *api.Plan) { p.Fuel = 9 }, api.Done, api.OK, api.Key{}, 6, done, all},
		{"budget 3", func(p *api.Plan) { p.Budget = 3 }, api.Cut, api.OK, api.Key{}, 3, []int64{2, 11}, []uint64{3, 2}},
		{"budget 5", func(p *api.Plan) { p.Budget = 5 }, api.Cut, api.OK, api.Key{}, 5, []int64{3, 12}, []uint64{4, 3}},
		{"budget 6", func(p *api.Plan) { p.Budget = 6 }, api.Done, api.OK, api.Key{}, 6, done, all},
		{"no budget", func(p *api.Plan) { p.Budget = 0 }, api.Cut, api.OK, api.Key{}, 0, []int64{0, 10}, []uint64{1, 1}},
		{"end 3", func(p *api.Plan) { p.End = 3 }, api.Done, api.OK, api.Key{}, 1, []int64{1, 10}, []uint64{2, 1}},
		{"end 13", func(p *api.Plan) { p.End = 13 }, api.Done, api.OK, api.Key{}, 5, []int64{3, 12}, []uint64{4, 3}},
		{"end 0", func(p *api.Plan) { p.End = 0 }, api.Done, api.OK, api.Key{}, 0, []int64{0, 10}, []uint64{1, 1}},
		{"end 0, no budget", func(p *api.Plan) { p.End, p.Budget = 0, 0 }, api.Done, api.OK, api.Key{}, 0, []int64{0, 10}, []uint64{1, 1}},
		{"no budget, and the handler would fail", func(p *api.Plan) { p.Look, p.Budget = 6, 0 }, api.Cut, api.OK, api.Key{}, 0, []int64{0, 10}, []uint64{1, 1}},
	} {
		wantRun(t, c.name, seqrun.Run(with(c.change)), c.kind, c.code, c.at, firstOf(clockTrace, c.events), c.words, c.sent)
	}
	wantRun(t, "nothing", seqrun.Run(api.Plan{Look: 1, Fuel: 1}), api.Done, api.OK, api.Key{}, "", nil, nil)
	sameResult(t, "the zero plan", seqrun.Run(api.Plan{}), api.Result{Kind: api.Rejected, Code: api.ErrLook})
}

// 12.6, 12.11: the chapter's example 5; a budget of n where that is less than the plan's own.
func TestPrefix(t *testing.T) {
	for _, c := range []struct {
		n, kind, events int
		words           []int64
		sent            []uint64
	}{
		{3, api.Cut, 3, []int64{2, 11}, []uint64{3, 2}},
		{6, api.Done, 6, []int64{3, 13}, []uint64{4, 4}},
		{0, api.Cut, 0, []int64{0, 10}, []uint64{1, 1}},
		{-5, api.Cut, 0, []int64{0, 10}, []uint64{1, 1}},
		{math.MinInt, api.Cut, 0, []int64{0, 10}, []uint64{1, 1}},
		{100, api.Done, 6, []int64{3, 13}, []uint64{4, 4}},
		{4097, api.Done, 6, []int64{3, 13}, []uint64{4, 4}},
		{math.MaxInt, api.Done, 6, []int64{3, 13}, []uint64{4, 4}},
	} {
		wantRun(t, c.n, seqrun.Prefix(clock(), c.n), c.kind, api.OK, api.Key{}, firstOf(clockTrace, c.events), c.words, c.sent)
	}
	short := with(func(p *api.Plan) { p.Budget = 2 })
	for n, events := range []int{0, 1, 2, 2, 2} {
		if r := seqrun.Prefix(short, n); r.Kind != api.Cut || texts(r.Trace) != firstOf(clockTrace, events) {
			t.Errorf("Prefix %d of a budget of 2: %s", n, tellResult(r))
		}
	}
	over := with(func(p *api.Plan) { p.Budget = 4097 })
	sameResult(t, "a wrong budget is not mended", seqrun.Prefix(over, 3), api.Result{Kind: api.Rejected, Code: api.ErrBudget})
}

// 12.8: the chapter's examples 4, 6 and 7.
func TestWindows(t *testing.T) {
	for _, c := range []struct {
		name   string
		change func(p *api.Plan)
		want   []api.Window
	}{
		{"Q", func(p *api.Plan) {}, []api.Window{{Number: 1, Low: 0, Bound: 5, Events: 2}, {Number: 2, Low: 5, Bound: 10, Events: 2}, {Number: 3, Low: 10, Bound: 14, Events: 2}}},
		{"budget 3", func(p *api.Plan) { p.Budget = 3 }, []api.Window{{Number: 1, Low: 0, Bound: 5, Events: 2}, {Number: 2, Low: 5, Bound: 10, Events: 1}}},
		{"look 1", func(p *api.Plan) { p.Look, p.End = 1, 6 }, []api.Window{{Number: 1, Low: 0, Bound: 1, Events: 1}, {Number: 2, Low: 3, Bound: 4, Events: 1}, {Number: 3, Low: 5, Bound: 6, Events: 1}}},
		{"look 3: an event at the bound is behind it", func(p *api.Plan) { p.Look, p.End = 3, 6 }, []api.Window{{Number: 1, Low: 0, Bound: 3, Events: 1}, {Number: 2, Low: 3, Bound: 6, Events: 2}}},
		{"look 6", func(p *api.Plan) { p.Look = 6 }, nil},
		{"no budget", func(p *api.Plan) { p.Budget = 0 }, nil},
		{"end 0", func(p *api.Plan) { p.End = 0 }, nil},
		{"no starts", func(p *api.Plan) { p.Starts = nil }, nil},
	} {
		if l := seqrun.Windows(with(c.change)); !slices.Equal(l, c.want) {
			t.Errorf("%s: %v, not %v", c.name, l, c.want)
		}
	}
}

// 12.8: a bound beyond 64 bits is the end.
func TestWindowsAtTheEndOfTime(t *testing.T) {
	p := api.Plan{Kinds: 1, Programs: []api.Program{{Entry: []int{-1}}}, Parts: []api.Part{{}}, Look: 10, End: most, Budget: 9, Fuel: 1}
	for _, time := range []uint64{most, most - 1, most - 4, most - 11, most - 12} {
		p.Starts = append(p.Starts, api.Start{Time: time})
	}
	want := []api.Window{{Number: 1, Low: most - 12, Bound: most - 2, Events: 3}, {Number: 2, Low: most - 1, Bound: most, Events: 1}}
	if l := seqrun.Windows(p); !slices.Equal(l, want) {
		t.Errorf("%v, not %v", l, want)
	}
	p.Look = most
	want = []api.Window{{Number: 1, Low: most - 12, Bound: most, Events: 4}}
	if l := seqrun.Windows(p); !slices.Equal(l, want) {
		t.Errorf("%v, not %v", l, want)
	}
	if r := seqrun.Run(p); r.Kind != api.Done || len(r.Trace) != 4 {
		t.Errorf("an event at the largest time is never executed: %s", tellResult(r))
	}
}

// 12.4, 12.5: the chapter's example 8.
func TestSteps(t *testing.T) {
	s := opened(t, clock(), first(t, clock()))
	samePoint(t, "ahead of any Step", s.Point(), first(t, clock()))
	wantRun(t, "ahead of any Step", s.Result(), api.Unfinished, api.ErrUnfinished, api.Key{}, "", []int64{0, 10}, []uint64{1, 1})
	row := strings.Fields(clockTrace)
	wantStep(t, s, row[0], api.OK)
	wantRun(t, "one Step", s.Result(), api.Unfinished, api.ErrUnfinished, api.Key{}, row[0], []int64{1, 10}, []uint64{2, 1})
	if at := s.Point(); texts(at.Pending) != "3.1.0>1:0=2 5.0.1>0:0=0" || texts(at.Trace) != row[0] || at.States[0].Sent != 2 {
		t.Error(tellPoint(at))
	}
	for _, text := range row[1:] {
		wantStep(t, s, text, api.OK)
	}
	for range 3 {
		wantRun(t, "six Steps", s.Result(), api.Done, api.OK, api.Key{}, clockTrace, []int64{3, 13}, []uint64{4, 4})
		wantStep(t, s, "", api.ErrOver)
	}
	if at := s.Point(); texts(at.Pending) != "15.0.3>0:0=0 18.1.3>1:0=0" {
		t.Error(tellPoint(at))
	}
}

// 12.4, 12.5: the chapter's example 9: a handler that fails ends the run, and nothing else changes.
func TestStepsFail(t *testing.T) {
	p := with(func(p *api.Plan) { p.Look = 6 })
	s := opened(t, p, first(t, p))
	wantStep(t, s, "", api.FaultDelay)
	for range 3 {
		wantRun(t, "a fault", s.Result(), api.Fault, api.FaultDelay, api.Key{}, "", []int64{0, 10}, []uint64{1, 1})
		samePoint(t, "a fault", s.Point(), first(t, p))
		wantStep(t, s, "", api.ErrOver)
	}
	again := opened(t, p, s.Point())
	wantRun(t, "opened anew", again.Result(), api.Unfinished, api.ErrUnfinished, api.Key{}, "", []int64{0, 10}, []uint64{1, 1})
	wantStep(t, again, "", api.FaultDelay)
	wantStep(t, again, "", api.ErrOver)
}

// divider is a plan whose third event fails.
func divider(t *testing.T) api.Plan {
	g := program(t, "words 1\nentry 0\ndata\nsave 0\npush 6\nroll\npop\ndata\npush 1\nsub\nme\npush 5\nsend 0\npush 6\ndata\ndiv\npop\nstop")
	return api.Plan{Kinds: 1, Programs: []api.Program{g}, Parts: []api.Part{{Words: []int64{9}}}, Starts: []api.Start{{Data: 2}}, Look: 5, End: 99, Budget: 50, Fuel: 50}
}

// 12.4: a handler that fails behind others: what those did stays; what it did itself ahead of its fault (a word, a throw, an event) never was.
func TestFaultInTheMiddle(t *testing.T) {
	p := divider(t)
	s := opened(t, p, first(t, p))
	wantStep(t, s, "0.0.0>0:0=2", api.OK)
	wantStep(t, s, "5.0.1>0:0=1", api.OK)
	ahead := s.Point()
	wantStep(t, s, "", api.FaultDivide)
	samePoint(t, "a fault", s.Point(), ahead)
	wantRun(t, "a fault", s.Result(), api.Fault, api.FaultDivide, api.Key{Time: 10, Seq: 2}, "0.0.0>0:0=2 5.0.1>0:0=1", []int64{1}, []uint64{3})
	if texts(ahead.Pending) != "10.0.2>0:0=0" {
		t.Error(tellPoint(ahead))
	}
}

// 12.4: an event that is passed over is executed: it changes nothing, and counts.
func TestPassedOver(t *testing.T) {
	p := with(func(p *api.Plan) { p.Programs[0].Entry[0] = -1; p.Fuel = 1 })
	s := opened(t, p, first(t, p))
	wantStep(t, s, "0.0.0>0:0=1", api.OK)
	wantStep(t, s, "3.1.0>1:0=2", api.OK)
	wantRun(t, "passed over", s.Result(), api.Done, api.OK, api.Key{}, firstOf(clockTrace, 2), []int64{0, 10}, []uint64{1, 1})
	if at := s.Point(); len(at.Pending) != 0 {
		t.Error(tellPoint(at))
	}
}

// 12.4, 12.5: a fault comes ahead of Done and Cut in a result, and a run that waits for its end ahead of one that is cut.
func TestWhatAResultIs(t *testing.T) {
	p := with(func(p *api.Plan) { p.Budget = 6 })
	s := opened(t, p, first(t, p))
	toEnd(s)
	if r := s.Result(); r.Kind != api.Done {
		t.Errorf("the budget is used up and nothing is left: %s", tellResult(r))
	}
	at := first(t, p)
	at.Trace = make([]api.Event, 6)
	s = opened(t, p, at)
	wantStep(t, s, "", api.ErrOver)
	if r := s.Result(); r.Kind != api.Cut || r.Code != api.OK || r.At != (api.Key{}) {
		t.Errorf("the budget is used up: %s", tellResult(r))
	}
	p.Look = 6
	at.Trace = at.Trace[:5]
	s = opened(t, p, at)
	wantStep(t, s, "", api.FaultDelay)
	if r := s.Result(); r.Kind != api.Fault || len(r.Trace) != 5 {
		t.Errorf("a fault: %s", tellResult(r))
	}
}

// 12.7: Each gives the events one by one, for as long as it is asked, and begins anew.
func TestEach(t *testing.T) {
	p := clock()
	each := seqrun.Each(p)
	p.Programs[0].Code[0].Op, p.Starts[0].Time, p.Parts[0].Words[0] = api.IFail, 99, 99
	row := strings.Fields(clockTrace)
	for _, stop := range []int{2, 6, 1, 7, 3} {
		n := 0
		for place, e := range each {
			if place != n || stamp.Text(e) != row[n] {
				t.Fatalf("at %d Each gives %d, %v", n, place, e)
			}
			n++
			if n == stop {
				break
			}
		}
		if n != min(stop, 6) {
			t.Errorf("%d events, not %d", n, min(stop, 6))
		}
	}
	seqrun.Each(clock())(func(place int, e api.Event) bool {
		if place > 0 {
			t.Errorf("who stopped is given %d, %v", place, e)
		}
		return false
	})
}

// 12.7: one ranging within another, and two side by side, know nothing of one another.
func TestEachInEach(t *testing.T) {
	each := seqrun.Each(clock())
	var l []string
	for i, a := range each {
		for j, b := range each {
			if j > i {
				break
			}
			l = append(l, fmt.Sprint(i, j, stamp.Text(a), stamp.Text(b)))
		}
	}
	row, n := strings.Fields(clockTrace), 0
	for i := range row {
		for j := range i + 1 {
			if n >= len(l) || l[n] != fmt.Sprint(i, j, row[i], row[j]) {
				t.Fatalf("at %d, %d: %v", i, j, l)
			}
			n++
		}
	}
	if n != len(l) {
		t.Errorf("%v", l[n:])
	}
}

// 12.7: what fails, or is cut, ends Each: the event that failed is not given.
func TestEachEnds(t *testing.T) {
	for name, p := range map[string]api.Plan{
		"fault": divider(t),
		"cut":   with(func(p *api.Plan) { p.Budget = 4 }),
		"done":  clock(),
		"look":  with(func(p *api.Plan) { p.Look = 6 }),
		"idle":  with(func(p *api.Plan) { p.End = 0 }),
		"bare":  {Look: 1, Fuel: 1},
	} {
		var l []api.Event
		for place, e := range seqrun.Each(p) {
			if place != len(l) {
				t.Fatalf("%s: the place %d behind %d events", name, place, len(l))
			}
			l = append(l, e)
		}
		if want := seqrun.Run(p).Trace; texts(l) != texts(want) {
			t.Errorf("%s: Each gives %s, not %s", name, texts(l), texts(want))
		}
	}
}

// shop is the model of DOC.md's section on the language.
const shop = `
look 5  end 200  budget 300  seed 7
const N = 4
kind job, done
type Shop {
  var waiting
  var busy
  var served[2]
  on job(size) {
    waiting = waiting + 1
    if busy == 0 {
      busy = 1
      send done(size) to me after 5 + roll(10)
    }
  }
  on done(size) {
    waiting = waiting - 1
    served[size % 2] = served[size % 2] + 1
    busy = 0
    if waiting > 0 { busy = 1 send done(size + 1) to me after 5 + roll(10) }
    send job(size) to shop[(me + 1) % N] after 6
  }
}
place shop[N] : Shop (waiting = 0)
start job(3) to shop[0] at 0
start job(8) to shop[2] at 4
`

// DOC.md, examples 3 and 4: the shop, whole and with a budget of 5.
func TestShop(t *testing.T) {
	p, err := codegen.Plan(shop)
	if err != nil {
		t.Fatal(err)
	}
	r := seqrun.Run(p)
	if r.Kind != api.Done || len(r.Trace) != 52 || !slices.Equal(r.States[0].Words, []int64{1, 1, 3, 3}) {
		t.Error(tellResult(r))
	}
	var to, from, kinds [4]int
	for _, e := range r.Trace {
		to[e.Dst]++
		from[e.Key.Src]++
		kinds[e.Kind]++
	}
	if to != [4]int{13, 12, 14, 13} || from != [4]int{13, 12, 15, 12} || kinds != [4]int{27, 25} {
		t.Errorf("to %v, from %v, kinds %v", to, from, kinds)
	}
	if l := seqrun.Windows(p); len(l) == 0 || !slices.Equal(l, slowWindows(p)) {
		t.Errorf("%v, not %v", l, slowWindows(p))
	}
	r = seqrun.Prefix(p, 5)
	if r.Kind != api.Cut || texts(r.Trace) != "0.0.0>0:0=3 4.2.0>2:0=8 12.0.1>0:1=3 18.0.2>1:0=3 18.2.1>2:1=8" {
		t.Error(tellResult(r))
	}
}

// DOC.md, examples 5, 6, 7 and 8, from their text on: a fault, a run that needs no room, the end of time, dice.
func TestExamplesOfTheWhole(t *testing.T) {
	for _, c := range []struct {
		name, text string
		kind       int
		code       api.Errno
		at         api.Key
		events     int
		trace      string // where the document tells it
		words      []int64
	}{
		{"example 5", "look 1 end 50 kind k type T { var n = 3 on k(x) { n = n - 1 send k(60 / n) to me after 2 } } place t : T start k(0) to t at 10",
			api.Fault, api.FaultDivide, api.Key{Time: 14, Seq: 2}, 2, "10.0.0>0:0=0 12.0.1>0:0=30", []int64{1}},
		{"example 6", "look 2 end 50 kind k type T { on k(x) { send k(x) to (me + 1) % 3 after 2 send k(x + 1) to (me + 2) % 3 after 3 } } place t[3] : T start k(0) to t[0] at 0",
			api.Cut, api.OK, api.Key{}, 1000, "", nil},
		{"example 7", "look 10 end 18446744073709551615 kind k type T { var last on k(x) { last = now send k(x) to me after 10 } } place t : T start k(0) to t at 18446744073709551590",
			api.Fault, api.FaultTime, api.Key{Time: 18446744073709551610, Seq: 2}, 2, "18446744073709551590.0.0>0:0=0 18446744073709551600.0.1>0:0=0", []int64{-16}},
		{"example 8", "seed 42 look 1 end 1000 budget 4 kind k type D { var r[3] var w on k(x) { r[x] = roll(6) + 1 w = wait(100) send k((x + 1) % 3) to me after max(1, w) } } place d : D place e : D start k(0) to d at 0 start k(0) to e at 0",
			api.Cut, api.OK, api.Key{}, 4, "0.0.0>0:0=0 0.1.0>1:0=0 33.1.1>1:0=1 294.0.1>0:0=1", []int64{1, 1, 0, 109, 1, 6, 0, 427}},
	} {
		p, err := codegen.Plan(c.text)
		if err != nil {
			t.Fatalf("%s: %v", c.name, err)
		}
		r := seqrun.Run(p)
		var words []int64
		for _, v := range r.States {
			words = append(words, v.Words...)
		}
		if r.Kind != c.kind || r.Code != c.code || r.At != c.at || len(r.Trace) != c.events || c.trace != "" && texts(r.Trace) != c.trace || !slices.Equal(words, c.words) {
			t.Errorf("%s: %s", c.name, tellResult(r))
		}
	}
}
