package horizon_test

import (
	"bytes"
	"fmt"
	"runtime"
	"slices"
	"strings"
	"testing"
	"time"

	"horizon/api"
	"horizon/horizon"
)

func spoilPlan(p api.Plan) {
	for _, g := range p.Programs {
		spoil(g.Code, api.Instr{Op: api.IFail, A: 7})
		spoil(g.Entry, -1)
	}
	for _, part := range p.Parts {
		spoil(part.Words, -9)
	}
	spoil(p.Programs, api.Program{Words: 77})
	spoil(p.Parts, api.Part{Program: 77})
	spoil(p.Starts, api.Start{Time: 77})
}

func spoilResult(r api.Result) {
	for _, v := range r.States {
		spoil(v.Words, -9)
	}
	spoil(r.States, api.State{Dice: 7})
	spoil(r.Trace, api.Event{Dst: 5})
}

// everything is all that can be seen of a desk with a model, and how its runs end.
func everything(d *horizon.Desk, modes ...int) string {
	told := planOf(d) + lastOf(d)
	for _, mode := range modes {
		told += answer(d.Run(mode, []int{0, 1, 2, 0, 1, 2, 0, 1, 2, 0, 1, 2, 0, 0, 0, 1, 1, 1}))
	}
	b, err := d.Save(2)
	return told + fmt.Sprintf("%x", b) + tellErr(err)
}

// 0.4: who writes over a plan that was handed out changes nothing at the desk, and no other answer.
func TestPlanIsApart(t *testing.T) {
	d := loaded(t, shop)
	first, _ := d.Plan()
	second, _ := d.Plan()
	told := tellPlan(second)
	spoilPlan(first)
	same(t, "another answer", tellPlan(second), told)
	same(t, "the desk", everything(d, api.ModeSeq, api.ModeCrew), everything(loaded(t, shop), api.ModeSeq, api.ModeCrew))
}

// 0.4: a layout is not changed, and who writes over it later changes nothing.
func TestLayoutIsApart(t *testing.T) {
	owner := append(make([]int, 0, 9), 0, 1, 1, 77, 77)[:3]
	d := loaded(t, ring)
	lays(t, d, api.Layout{Workers: 2, Owner: owner, Arena: 99, Box: 1, Undo: 99})
	everything(d, api.ModeKernel, api.ModeFair, api.ModeCrew, api.ModeWarp)
	if !slices.Equal(owner[:5], []int{0, 1, 1, 77, 77}) {
		t.Errorf("the owners are %v", owner[:5])
	}
	spoil(owner, 0)
	// With one owner of all parts nothing would go through a box.
	if r, _ := d.Run(api.ModeFair, nil); r.Kind != api.Resource || r.Window != 1 {
		t.Errorf("the layout has changed: %v, %v", r.Kind, r.Window)
	}
}

// 0.4: a result that was handed out shares nothing with the last one, nor with another answer.
func TestResultIsApart(t *testing.T) {
	d := loaded(t, shop)
	d.Run(api.ModeSeq, nil)
	whole, _ := d.Save(2)
	for name, call := range map[string]func() (api.Result, error){
		"seq":     func() (api.Result, error) { return d.Run(api.ModeSeq, nil) },
		"picks":   func() (api.Result, error) { return d.Run(api.ModeKernel, slices.Repeat([]int{0}, 60)) },
		"fair":    func() (api.Result, error) { return d.Run(api.ModeFair, nil) },
		"crew":    func() (api.Result, error) { return d.Run(api.ModeCrew, nil) },
		"warp":    func() (api.Result, error) { return d.Run(api.ModeWarp, nil) },
		"restore": func() (api.Result, error) { return d.Restore(2, whole[:300]) },
		"last":    d.Last,
	} {
		r, _ := call()
		want := tell(r)
		last, _ := d.Last()
		again, _ := d.Last()
		spoilResult(r)
		same(t, name, lastOf(d), answer(again, nil))
		spoilResult(last)
		same(t, name, lastOf(d), answer(again, nil))
		same(t, name, tell(again), want)
		r, _ = call()
		same(t, name, tell(r), want)
	}
}

// 0.4: picks and journals are neither changed nor kept; a journal that was handed out shares nothing with another.
func TestListsAreApart(t *testing.T) {
	d := loaded(t, shop)
	picks := append(make([]int, 0, 9), 0, 0, 0, 5, 77)[:4]
	d.Run(api.ModeKernel, picks)
	if !slices.Equal(picks[:5], []int{0, 0, 0, 5, 77}) {
		t.Errorf("the picks are %v", picks[:5])
	}
	first, _ := d.Save(2)
	second, _ := d.Save(2)
	kept := bytes.Clone(second)
	part := first[:300]
	want := answer(d.Restore(2, part))
	if !bytes.Equal(first, kept) {
		t.Error("Restore has changed the journal")
	}
	spoil(first, 0)
	same(t, "the last result", lastOf(d), want)
	if !bytes.Equal(second, kept) {
		t.Error("the journals share memory")
	}
}

// 0.3: two desks know nothing of one another.
func TestDesksAreApart(t *testing.T) {
	one, two := loaded(t, shop), loaded(t, clock)
	lays(t, one, wide(2, 0, 1, 0, 1))
	one.Run(api.ModeSeq, nil)
	_, err := two.Last()
	refused(t, "Last", err, api.ErrNoRun)
	two.Run(api.ModeFair, nil)
	other := loaded(t, shop)
	lays(t, other, wide(2, 0, 1, 0, 1))
	other.Run(api.ModeSeq, nil)
	same(t, "the desk", everything(one, api.ModeKernel), everything(other, api.ModeKernel))
}

// 0.3, 0.5: scripts that are played at the same time, or again, are answered alike; each begins with nothing.
func TestScriptsAreApart(t *testing.T) {
	script := model(shop) + "spread 3 1\nrun crew\ntally\nrun warp\nrun fair\nsave 2\ncrash 400\nresume 2\ntrace\n"
	want := horizon.Do(script)
	got := make(chan string)
	for range 8 {
		go func() { got <- horizon.Do(script) }()
	}
	for range 8 {
		same(t, "at the same time", <-got, want)
	}
	answers(t, "print\ntrace\nscan\n", strings.Repeat("error 192\n", 3))
}

// 0.5: all goroutines that a call started have ended when it answers, or are about to.
func TestGoroutinesEnd(t *testing.T) {
	before := runtime.NumGoroutine()
	for range 50 {
		horizon.Do(model(shop) + "spread 4 1\nrun crew\nlayout 4 9 1 1 0 0 1 1\nrun crew\n" + model(breaks) + "run crew\n")
	}
	for wait := 0; runtime.NumGoroutine() > before && wait < 100; wait++ {
		time.Sleep(time.Millisecond)
	}
	if n := runtime.NumGoroutine(); n > before {
		t.Errorf("%d goroutines, %d before", n, before)
	}
}
