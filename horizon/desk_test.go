package horizon_test

import (
	"bytes"
	"errors"
	"fmt"
	"math"
	"strings"
	"testing"

	"horizon/api"
	"horizon/codegen"
	"horizon/crew"
	"horizon/horizon"
	"horizon/journal"
	"horizon/kernel"
	"horizon/seqrun"
	"horizon/warp"
	"horizon/worker"
)

// faulty is texts that have no plan, each by another error.
var faulty = []string{
	"",
	"look",
	"look 5",
	"look $",
	"look 0 end 9 look 3",
	"look 5 end 9 const A = 1 / 0",
	"look 5 end 9 budget 4097",
	"look 5 end 9 fuel 0",
	"look 5 end 9 kind k type T { on k(x) {" + strings.Repeat(" let a = 1 { ", 3) + "} }",
	"look 5 end 9 kind k type T { on k(x) {" + manyLets(33) + "} }",
	strings.Repeat(" ", api.MaxText+1),
}

func manyLets(n int) string {
	var b strings.Builder
	for i := range n {
		fmt.Fprint(&b, " let a", i, " = 1")
	}
	return b.String()
}

// 19.1: Load answers the error of codegen.Plan as it is; a desk without a model stays so.
func TestLoadErrors(t *testing.T) {
	for _, text := range faulty {
		_, want := codegen.Plan(text)
		if want == nil {
			t.Fatalf("%q has a plan", text)
		}
		d := horizon.New()
		same(t, short(text), tellErr(d.Load(text)), tellErr(want))
		_, err := d.Plan()
		refused(t, "Plan", err, api.ErrNoModel)
	}
	var at *api.PosError
	if err := horizon.New().Load("look"); !errors.As(err, &at) || at.Line != 1 || at.Col != 5 || at.Err != error(api.ErrEnds) {
		t.Errorf("Load is %v", err)
	}
	var many *api.ManyError
	if err := horizon.New().Load("look 5"); !errors.As(err, &many) || len(many.List) != 1 {
		t.Errorf("Load is %v", err)
	}
}

// 19.1: with an error the desk stays as it was: its model, its layout, its last result.
func TestLoadErrorsChangeNothing(t *testing.T) {
	d := loaded(t, ring)
	tight := api.Layout{Workers: 2, Owner: []int{0, 1, 1}, Arena: 99, Box: 1, Undo: 99}
	lays(t, d, tight)
	d.Run(api.ModeSeq, nil)
	plan, last := planOf(d), lastOf(d)
	for _, text := range faulty {
		if d.Load(text) == nil {
			t.Fatalf("%q is loaded", text)
		}
		same(t, "the plan", planOf(d), plan)
		same(t, "the last result", lastOf(d), last)
	}
	if r, _ := d.Run(api.ModeFair, nil); r.Kind != api.Resource || r.Window != 1 {
		t.Errorf("the layout is gone: %v", r)
	}
}

// 19.1: a model that is loaded takes the place of the one ahead of it; there is no layout then, and no last result.
func TestLoadForgets(t *testing.T) {
	d := loaded(t, ring)
	lays(t, d, api.Layout{Workers: 2, Owner: []int{0, 1, 1}, Arena: 99, Box: 1, Undo: 99})
	d.Run(api.ModeSeq, nil)
	if err := d.Load(ring); err != nil {
		t.Fatal(err)
	}
	_, err := d.Last()
	refused(t, "Last", err, api.ErrNoRun)
	if r, err := d.Run(api.ModeFair, nil); r.Kind != api.Cut || err != nil {
		t.Errorf("the layout is the old model's: %v, %v", r.Kind, err)
	}
	if err := d.Load(shop); err != nil {
		t.Fatal(err)
	}
	same(t, "the plan", planOf(d), tellPlan(scenario(t, shop))+tellErr(nil))
	r, err := d.Run(api.ModeFair, nil)
	same(t, "the run", answer(r, err), answer(seqrun.Run(scenario(t, shop)), nil))
}

// 19.2: Plan is codegen.Plan's; without a model there is none.
func TestPlan(t *testing.T) {
	d := horizon.New()
	p, err := d.Plan()
	refused(t, "Plan", err, api.ErrNoModel)
	same(t, "the plan", tellPlan(p), tellPlan(api.Plan{}))
	for _, text := range []string{clock, shop, breaks, ring, idle} {
		if err := d.Load(text); err != nil {
			t.Fatal(err)
		}
		same(t, text, planOf(d), tellPlan(scenario(t, text))+tellErr(nil))
	}
}

// 19.3: Lay answers worker.Valid's error, and with an error nothing changes; without a model it takes no layout at all.
func TestLayErrors(t *testing.T) {
	refused(t, "no model", horizon.New().Lay(wide(1)), api.ErrNoModel)
	refused(t, "no model, no layout", horizon.New().Lay(api.Layout{}), api.ErrNoModel)
	d := loaded(t, ring)
	lays(t, d, api.Layout{Workers: 2, Owner: []int{0, 1, 1}, Arena: 99, Box: 1, Undo: 99})
	d.Run(api.ModeSeq, nil)
	last := lastOf(d)
	bad := map[api.Errno]api.Layout{
		api.ErrWorkers: wide(65, 0, 0, 0),
		api.ErrOwner:   wide(2, 0, 0, 2),
		api.ErrArena:   {Workers: 1, Owner: []int{0, 0, 0}, Box: 1, Undo: 1},
		api.ErrBoxes:   {Workers: 1, Owner: []int{0, 0, 0}, Arena: 9, Box: 1025, Undo: 1},
		api.ErrUndos:   {Workers: 1, Owner: []int{0, 0, 0}, Arena: 9, Box: 1, Undo: -1},
	}
	for code, l := range bad {
		if got := worker.Valid(scenario(t, ring), l); got != code {
			t.Fatalf("%v is %d", l, got)
		}
		refused(t, l, d.Lay(l), code)
		same(t, "the last result", lastOf(d), last)
	}
	if r, _ := d.Run(api.ModeFair, nil); r.Kind != api.Resource || r.Window != 1 {
		t.Errorf("the layout is gone: %v", r)
	}
}

// 19.3: the layout is the one that was laid last; the last result stays when one is laid.
func TestLay(t *testing.T) {
	d := loaded(t, ring)
	d.Run(api.ModeSeq, nil)
	last := lastOf(d)
	for _, c := range []struct {
		layout api.Layout
		window int
	}{
		{api.Layout{Workers: 2, Owner: []int{0, 1, 1}, Arena: 99, Box: 1, Undo: 99}, 1},
		{api.Layout{Workers: 2, Owner: []int{0, 1, 1}, Arena: 99, Box: 99, Undo: 4}, 5},
		{api.Layout{Workers: 2, Owner: []int{0, 1, 1}, Arena: 6, Box: 99, Undo: 99}, 4},
		{wide(3, 2, 0, 1), 0},
	} {
		lays(t, d, c.layout)
		same(t, "the last result", lastOf(d), last)
		if r, _ := d.Run(api.ModeCrew, nil); r.Window != c.window {
			t.Errorf("%v: the window is %d", c.layout, r.Window)
		}
		last = lastOf(d)
	}
}

// 19.3, 19.4: where no layout was laid, it is kernel.Spread for one worker, with as much room as can be.
func TestNoLayout(t *testing.T) {
	p := scenario(t, shop)
	l, _ := kernel.Spread(p, 1, 1)
	for n := range 40 {
		d := loaded(t, shop)
		picks := make([]int, n)
		r, err := d.Run(api.ModeKernel, picks)
		want, why := kernel.Run(p, l, picks)
		same(t, n, answer(r, err), answer(want, why))
	}
}

// inMode is what the layers below answer for a mode.
func inMode(p api.Plan, l api.Layout, mode int, picks []int) (api.Result, error) {
	switch mode {
	case api.ModeSeq:
		return seqrun.Run(p), kernel.Err(seqrun.Run(p))
	case api.ModeKernel:
		return kernel.Run(p, l, picks)
	case api.ModeFair:
		return kernel.Fair(p, l, kernel.Enough(p, l))
	case api.ModeCrew:
		return crew.Run(p, l)
	}
	return warp.Fair(p, l, warp.Enough(p, l))
}

// 19.4: each mode answers what its layer does, and that becomes the last result.
func TestRun(t *testing.T) {
	m := maker{chance: 194}
	kinds := map[int]int{}
	for range 250 {
		text := m.text()
		p, d := scenario(t, text), loaded(t, text)
		l := m.layout(p)
		lays(t, d, l)
		picks := m.picks(l.Workers)
		for mode := api.ModeSeq; mode <= api.ModeWarp; mode++ {
			r, err := d.Run(mode, picks)
			want, why := inMode(p, l, mode, picks)
			same(t, mode, answer(r, err), answer(want, why))
			same(t, "the last result", lastOf(d), answer(want, nil))
			kinds[r.Kind]++
		}
	}
	for _, kind := range []int{api.Done, api.Cut, api.Fault, api.Resource, api.Unfinished} {
		if kinds[kind] < 50 {
			t.Errorf("kinds %v", kinds)
		}
	}
}

// 19.4: picks are read in ModeKernel alone.
func TestPicksAreReadInOneMode(t *testing.T) {
	d := loaded(t, shop)
	want := answer(seqrun.Run(scenario(t, shop)), nil)
	for _, mode := range []int{api.ModeSeq, api.ModeFair, api.ModeCrew, api.ModeWarp} {
		same(t, mode, answer(d.Run(mode, []int{0, 5, -1})), want)
		same(t, mode, answer(d.Run(mode, nil)), want)
	}
}

// 19.4: what is refused changes nothing: no model comes first, then a mode that is none.
func TestRunErrors(t *testing.T) {
	d := horizon.New()
	for _, mode := range []int{math.MinInt, -1, 0, 1, 2, 3, 4, 5, 6, math.MaxInt} {
		r, err := d.Run(mode, nil)
		refused(t, mode, err, api.ErrNoModel)
		same(t, mode, tell(r), tell(api.Result{}))
	}
	d = loaded(t, shop)
	for _, mode := range []int{math.MinInt, -1, 0, 6, math.MaxInt} {
		r, err := d.Run(mode, []int{0})
		refused(t, mode, err, api.ErrArgs)
		same(t, mode, tell(r), tell(api.Result{}))
		_, err = d.Last()
		refused(t, "Last", err, api.ErrNoRun)
	}
	d.Run(api.ModeSeq, nil)
	last := lastOf(d)
	d.Run(0, nil)
	same(t, "the last result", lastOf(d), last)
}

// 19.5: Save is journal.Record's journal and error; it makes no last result.
func TestSave(t *testing.T) {
	for _, text := range []string{clock, shop, breaks, ring, idle} {
		d := loaded(t, text)
		for _, every := range []int{math.MinInt, -1, 0, 1, 3, api.MaxEvery, api.MaxEvery + 1, math.MaxInt} {
			b, err := d.Save(every)
			want, _, why := journal.Record(scenario(t, text), every)
			if !bytes.Equal(b, want) {
				t.Fatalf("every %d: the journal is %x", every, b)
			}
			same(t, every, tellErr(err), tellErr(why))
			_, err = d.Last()
			refused(t, "Last", err, api.ErrNoRun)
		}
	}
	b, err := loaded(t, breaks).Save(1)
	var at *api.KeyError
	if len(b) == 0 || !errors.As(err, &at) || !errors.Is(err, api.FaultDivide) {
		t.Errorf("Save is %x, %v", b, err)
	}
}

// 19.5: without a model there is nothing to save and nothing to restore, whatever is asked.
func TestNoModel(t *testing.T) {
	d := horizon.New()
	b, _ := loaded(t, shop).Save(1)
	for _, every := range []int{-1, 0, 1} {
		j, err := d.Save(every)
		refused(t, "Save", err, api.ErrNoModel)
		if len(j) > 0 {
			t.Errorf("Save is %x", j)
		}
		r, err := d.Restore(every, b)
		refused(t, "Restore", err, api.ErrNoModel)
		same(t, "Restore", tell(r), tell(api.Result{}))
	}
	r, err := d.Last()
	refused(t, "Last", err, api.ErrNoRun)
	same(t, "Last", tell(r), tell(api.Result{}))
}

// 19.5: Restore is journal.Resume's result and error, both; the result becomes the last one, if it is one.
func TestRestore(t *testing.T) {
	for _, text := range []string{clock, shop, breaks, idle} {
		p := scenario(t, text)
		whole, _, _ := journal.Record(p, 2)
		for n := 0; n <= len(whole); n += 1 + len(whole)/40 {
			d := loaded(t, text)
			r, err := d.Restore(2, whole[:n])
			_, want, why := journal.Resume(p, 2, whole[:n])
			same(t, n, answer(r, err), answer(want, why))
			same(t, "the last result", lastOf(d), answer(want, nil))
		}
	}
}

// 19.5: what Restore refuses leaves the last result as it was.
func TestRestoreErrors(t *testing.T) {
	d := loaded(t, shop)
	whole, _ := d.Save(2)
	spoilt := bytes.Clone(whole)
	spoilt[12]++
	other, _ := loaded(t, clock).Save(2)
	cases := []struct {
		every int
		b     []byte
		want  error
	}{
		{0, whole, api.ErrEvery},
		{65, nil, api.ErrEvery},
		{3, whole, &api.ByteError{Err: api.ErrOther}},
		{2, other, &api.ByteError{Err: api.ErrOther}},
		{2, spoilt, &api.ByteError{Err: api.ErrSum}},
	}
	for _, c := range cases {
		r, err := d.Restore(c.every, c.b)
		same(t, c.every, answer(r, err), answer(api.Result{}, c.want))
		_, err = d.Last()
		refused(t, "Last", err, api.ErrNoRun)
	}
	d.Run(api.ModeKernel, []int{0, 0, 0, 0, 0, 0, 0})
	last := lastOf(d)
	for _, c := range cases {
		d.Restore(c.every, c.b)
		same(t, "the last result", lastOf(d), last)
	}
	d.Restore(2, whole)
	same(t, "the last result", lastOf(d), answer(seqrun.Run(scenario(t, shop)), nil))
}
