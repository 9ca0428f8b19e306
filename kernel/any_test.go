package kernel_test

import (
	"fmt"
	"slices"
	"testing"

	"horizon/api"
	"horizon/kernel"
	"horizon/seqrun"
	"horizon/stamp"
)

// 14.9: whatever the picks are behind which a run is not Unfinished, it has the one result, by Room.
func TestAnyPicks(t *testing.T) {
	m := maker{chance: 149}
	for range 400 {
		p := m.plan(t)
		l := m.layout(p)
		j, code := kernel.Room(p, l)
		if code != api.OK {
			t.Fatalf("Room is refused: %d", code)
		}
		want := promised(p, j)
		for range 4 {
			r, err := kernel.Run(p, l, m.whole(t, p, l))
			wantAnswer(t, "thrown picks", r, err, want)
		}
		r, err := kernel.Fair(p, l, kernel.Enough(p, l))
		wantAnswer(t, "by turns", r, err, want)
	}
}

// 14.9: with room for all, the layout does not matter either.
func TestAnyLayout(t *testing.T) {
	m := maker{chance: 1490}
	for range 200 {
		p := m.plan(t)
		want := seqrun.Run(p)
		for _, workers := range []int{1, 2, 3, 7, 17} {
			l := wide(workers)
			for range p.Parts {
				l.Owner = append(l.Owner, m.below(workers))
			}
			r, err := kernel.Run(p, l, m.whole(t, p, l))
			wantAnswer(t, workers, r, err, want)
		}
	}
}

// shop is the model of DOC.md's section on the language.
const shop = `look 5  end 200  budget 300  seed 7
const N = 4
kind job, done
type Shop {
  var waiting
  var busy
  var served[2]
  on job(size) {
    waiting = waiting + 1
    if busy == 0 {
      busy = 1
      send done(size) to me after 5 + roll(10)
    }
  }
  on done(size) {
    waiting = waiting - 1
    served[size % 2] = served[size % 2] + 1
    busy = 0
    if waiting > 0 { busy = 1 send done(size + 1) to me after 5 + roll(10) }
    send job(size) to shop[(me + 1) % N] after 6
  }
}
place shop[N] : Shop (waiting = 0)
start job(3) to shop[0] at 0
start job(8) to shop[2] at 4
`

// fails and late are the models of DOC.md's examples 5 and 7.
const (
	fails = "look 1 end 50 kind k type T { var n = 3 on k(x) { n = n - 1 send k(60 / n) to me after 2 } } place t : T start k(0) to t at 10"
	late  = "look 10 end 18446744073709551615 kind k type T { var last on k(x) { last = now send k(x) to me after 10 } } place t : T start k(0) to t at 18446744073709551590"
)

// 14.9: DOC.md's examples 3, 4, 5 and 7, by turns: their ends, as far as they are told there.
func TestExamplesOfTheWhole(t *testing.T) {
	for _, x := range []struct {
		text         string
		budget       int
		workers, way int
		kind, events int
		told         string // the error
		words        []int64
	}{
		{shop, 300, 2, 1, api.Done, 52, "<nil>", []int64{1, 1, 3, 3}},
		{shop, 5, 4, 2, api.Cut, 5, "<nil>", []int64{0, 0, 0, 1}},
		{fails, 1000, 3, 3, api.Fault, 2, "14.0.2: error 201", []int64{1}},
		{late, 1000, 2, 4, api.Fault, 2, "18446744073709551610.0.2: error 206", []int64{-16}},
	} {
		p := scenario(t, x.text)
		p.Budget = x.budget
		l, _ := kernel.Spread(p, x.workers, x.way)
		r, err := kernel.Fair(p, l, kernel.Enough(p, l))
		wantAnswer(t, x.text, r, err, seqrun.Run(p))
		if r.Kind != x.kind || len(r.Trace) != x.events || fmt.Sprint(err) != x.told || !slices.Equal(r.States[0].Words, x.words) {
			t.Errorf("%s is answered by\n%s", x.text, answer(r, err))
		}
	}
}

// mixed lays strange numbers between picks, and takes none out.
func (m *maker) mixed(picks []int, workers int) []int {
	var l []int
	for _, w := range picks {
		for m.below(3) == 0 {
			l = append(l, pick(&m.chance, append(strange(), workers)...))
		}
		l = append(l, w)
	}
	return append(l, strange()...)
}

// 14.10: picks that are no worker's number change nothing, at any length of the list; nor do any picks behind the end.
func TestPicksOfNobody(t *testing.T) {
	m := maker{chance: 1410}
	for range 150 {
		p := m.plan(t)
		l := m.layout(p)
		picks := m.whole(t, p, l)
		for _, n := range []int{0, 1, m.below(len(picks)), m.below(len(picks)), len(picks) - 1, len(picks)} {
			want, _ := kernel.Run(p, l, picks[:n])
			r, err := kernel.Run(p, l, m.mixed(picks[:n], l.Workers))
			wantAnswer(t, "with strange numbers", r, err, want)
			bare := slices.DeleteFunc(slices.Clone(picks[:n]), func(w int) bool { return w < 0 || w >= l.Workers })
			r, err = kernel.Run(p, l, bare)
			wantAnswer(t, "without strange numbers", r, err, want)
		}
		want, _ := kernel.Run(p, l, picks)
		r, err := kernel.Run(p, l, append(picks, m.picks(l.Workers, 50)...))
		wantAnswer(t, "behind the end", r, err, want)
	}
}

// 14.10: an Unfinished run is what the first windows of the run in the order of keys have done.
func TestUnfinished(t *testing.T) {
	m := maker{chance: 14100}
	windows := 0
	for range 150 {
		p := m.plan(t)
		l := m.layout(p)
		picks, behind := m.whole(t, p, l), behindWindows(p)
		last := 0
		for n := 0; n < len(picks); n += 1 + m.below(12) {
			r, err := kernel.Run(p, l, picks[:n])
			if r.Kind != api.Unfinished {
				t.Fatalf("kind %d behind %d of %d picks", r.Kind, n, len(picks))
			}
			if c := slices.Index(behind, len(r.Trace)); c < last {
				t.Fatalf("%d events are no whole windows, or fewer than before", len(r.Trace))
			} else {
				windows += c - last
				last = c
			}
			want := seqrun.Prefix(p, len(r.Trace))
			wantAnswer(t, n, r, err, api.Result{Kind: api.Unfinished, Code: api.ErrUnfinished, States: want.States, Trace: want.Trace})
		}
	}
	if windows < 150 {
		t.Errorf("only %d windows were seen", windows)
	}
}

// holds tells whether 14.11 holds of a worker's View.
func holds(p api.Plan, l api.Layout, w int, v api.View, whole []api.Event, behind []int) bool {
	if !slices.Contains(behind, v.Total) || !slices.Equal(v.Trace, owned(whole[:v.Total], l, w)) {
		return false
	}
	for _, e := range v.Log {
		if e.Key.Time >= v.Bound {
			return false
		}
	}
	return stamp.Rising(v.Log) && len(owned(v.Log, l, w)) == len(v.Log) && len(v.Log) <= l.Undo && len(v.Log) <= p.Budget-v.Total &&
		stamp.Rising(v.Pending) && len(owned(v.Pending, l, w)) == len(v.Pending) && len(v.Pending) <= l.Arena
}

// 14.11: what Watch shows at every moment.
func TestEveryMoment(t *testing.T) {
	m := maker{chance: 1411}
	logs, committed := 0, 0
	for range 150 {
		p := m.plan(t)
		l := m.layout(p)
		picks := m.whole(t, p, l)
		whole, behind := seqrun.Run(p).Trace, behindWindows(p)
		kernel.Watch(p, l, picks, func(pick int, v api.View) bool {
			if !holds(p, l, picks[pick], v, whole, behind) {
				t.Fatalf("worker %d is seen as\n%s", picks[pick], tellView(v))
			}
			logs += len(v.Log)
			committed += len(v.Trace)
			return true
		})
	}
	if logs < 1000 || committed < 1000 {
		t.Errorf("%d events were seen in logs, %d in traces", logs, committed)
	}
}
