package crew_test

import (
	"fmt"
	"math"
	"testing"

	"horizon/api"
	"horizon/crew"
	"horizon/kernel"
	"horizon/seqrun"
)

// 15.2: the chapter's example 2.
func TestExampleUntil(t *testing.T) {
	for _, x := range []struct {
		windows, events int
		a, b            int64
	}{{-1, 0, 0, 10}, {0, 0, 0, 10}, {1, 2, 1, 11}, {2, 4, 2, 12}, {math.MinInt, 0, 0, 10}} {
		r, err := crew.Until(clockwork(), pair(), x.windows)
		ended(t, x.windows, r, err, api.Unfinished, api.ErrUnfinished, 0, ticks(x.events), x.a, x.b)
		if err != api.ErrUnfinished {
			t.Errorf("%d windows: the error is %s", x.windows, tellErr(err))
		}
	}
	r, _ := crew.Until(clockwork(), pair(), 1)
	if r.States[0].Sent != 2 || r.States[1].Sent != 2 {
		t.Errorf("the parts have sent %d and %d", r.States[0].Sent, r.States[1].Sent)
	}
	for _, windows := range []int{3, 4, 9, math.MaxInt} {
		r, err := crew.Until(clockwork(), pair(), windows)
		wantAnswer(t, windows, r, err, seqrun.Run(clockwork()))
	}
}

// 15.2: thrown plans and layouts, stopped behind every number of windows.
func TestThrownUntil(t *testing.T) {
	m := maker{chance: 152}
	kinds := map[int]int{}
	for range 600 {
		p := m.plan(t)
		l := m.layout(p)
		j, why := lackOf(p, l)
		for windows := -1; windows <= begun(p, j)+1; windows++ {
			r, err := crew.Until(p, l, windows)
			wantAnswer(t, fmt.Sprint(windows, " ", why), r, err, stopped(p, j, windows))
			kinds[r.Kind]++
		}
	}
	for kind := api.Done; kind <= api.Unfinished; kind++ {
		if kinds[kind] < 100 {
			t.Errorf("only %d runs were of kind %d", kinds[kind], kind)
		}
	}
}

// 15.2, 15.5: begun is as many windows as workers that are stepped by turns are ever seen at work in; so what TestThrownUntil holds answers against is not of its own making alone.
func TestBegun(t *testing.T) {
	m := maker{chance: 1520}
	for range 200 {
		p := m.plan(t)
		l := m.layout(p)
		var picks []int
		for i := range kernel.Enough(p, l) * l.Workers {
			picks = append(picks, i%l.Workers)
		}
		last := 0
		kernel.Watch(p, l, picks, func(_ int, v api.View) bool {
			if v.Phase == api.PhWork {
				last = max(last, v.Window)
			}
			return true
		})
		if j, why := lackOf(p, l); begun(p, j) != last {
			t.Fatalf("%d windows are begun, not %d; lack %d %s", last, begun(p, j), j, why)
		}
	}
}

// 15.2: no room in what was sent is found where the next window would begin: that is asked ahead of the stop.
func TestUntilDrain(t *testing.T) {
	p := scenario(t, "look 5 end 50 kind k, pass type T { on k(x) { send pass(0) to 1 after 5 send pass(0) to 1 after 6 } } place t[2] : T start k(0) to t[0] at 0 start pass(0) to t[1] at 40")
	l := pair()
	l.Arena = 2
	r, err := crew.Until(p, l, 0)
	ended(t, "no window", r, err, api.Unfinished, api.ErrUnfinished, 0, "")
	for _, windows := range []int{1, 2, 9} {
		r, err = crew.Until(p, l, windows)
		ended(t, windows, r, err, api.Resource, api.ErrNoRoom, 1, "")
	}
	l.Arena = 3
	r, err = crew.Until(p, l, 1)
	ended(t, "room", r, err, api.Unfinished, api.ErrUnfinished, 0, "0.0.0>0:0=0")
}

// 15.2: a window whose first event fails is no window of the run in the order of keys; it is stopped ahead of, not behind.
func TestUntilFault(t *testing.T) {
	p := scenario(t, "look 5 end 50 kind k type T { var n = 2 on k(x) { n = n - 1 if n < 0 { fail 1 } send k(0) to me after 5 } } place t : T start k(0) to t at 0")
	if n := len(seqrun.Windows(p)); n != 2 {
		t.Fatalf("%d windows", n)
	}
	l := wide(1, 0)
	r, err := crew.Until(p, l, 2)
	ended(t, 2, r, err, api.Unfinished, api.ErrUnfinished, 0, "0.0.0>0:0=0 5.0.1>0:0=0", 0)
	r, err = crew.Until(p, l, 3)
	wantAnswer(t, 3, r, err, seqrun.Run(p))
	if r.Kind != api.Fault || r.At != (api.Key{Time: 10, Seq: 2}) {
		t.Errorf("the answer is\n%s", answer(r, err))
	}
}

// 15.5: with room for all, what is stopped has the events of the first windows, and the states behind them, whatever the layout.
func TestUntilPrefix(t *testing.T) {
	p := scenario(t, shop)
	behind := behindWindows(p)
	for _, workers := range []int{1, 2, 4, 9} {
		for way := 1; way <= 4; way++ {
			l, _ := kernel.Spread(p, workers, way)
			for windows := range len(behind) - 1 {
				want := seqrun.Prefix(p, behind[windows])
				want.Kind, want.Code = api.Unfinished, api.ErrUnfinished
				r, err := crew.Until(p, l, windows)
				wantAnswer(t, windows, r, err, want)
			}
		}
	}
}
