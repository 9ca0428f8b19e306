package crew_test

import (
	"slices"
	"testing"

	"horizon/api"
	"horizon/crew"
)

// busy is a plan in which everything happens, a layout of three workers for it, and seeds; behind each list lies something in its spare room.
func busy(t *testing.T) (api.Plan, api.Layout, []uint64) {
	t.Helper()
	p := scenario(t, shop)
	l := wide(3, 0, 1, 2, 1)
	p.Starts = append(p.Starts, api.Start{Time: 77})[:2]
	p.Parts = append(p.Parts, api.Part{Program: 77})[:4]
	l.Owner = append(l.Owner, 77)[:4]
	return p, l, append(make([]uint64, 0, 9), 3, 4, 5, 77)[:3]
}

// tightShop is a layout in which the shop finds no room.
func tightShop() api.Layout {
	return api.Layout{Workers: 2, Owner: []int{0, 0, 1, 1}, Arena: 9, Box: 1, Undo: 1}
}

func spoilResult(r api.Result) {
	for _, v := range r.States {
		spoil(v.Words, -9)
	}
	spoil(r.States, api.State{Dice: 7})
	spoil(r.Trace, api.Event{Dst: 5})
}

// 0.4: no call changes what is handed in, spare room behind a list's end too.
func TestHandedIn(t *testing.T) {
	p, l, seeds := busy(t)
	q, k, same := busy(t)
	crew.Run(p, l)
	crew.Run(p, tightShop())
	crew.Until(p, l, 3)
	crew.Sweep(p, seeds, 2)
	if !slices.Equal(seeds[:cap(seeds)], same[:cap(same)]) || !slices.Equal(l.Owner[:5], k.Owner[:5]) || p.Seed != q.Seed {
		t.Error("seeds or owners have changed")
	}
	for i, g := range p.Programs {
		if !slices.Equal(g.Code, q.Programs[i].Code) || !slices.Equal(g.Entry, q.Programs[i].Entry) {
			t.Error("a program has changed")
		}
	}
	for i, part := range p.Parts {
		if part.Program != q.Parts[i].Program || !slices.Equal(part.Words, q.Parts[i].Words) {
			t.Error("a part has changed")
		}
	}
	if !slices.Equal(p.Starts[:3], q.Starts[:3]) || p.Parts[:5][4].Program != 77 {
		t.Error("starts, or what lies behind the parts, have changed")
	}
}

// 0.4: answers share no memory with what was handed in, nor with one another.
func TestHandedOut(t *testing.T) {
	p, l, seeds := busy(t)
	q, _, _ := busy(t)
	sweptAt := func(i int) (api.Result, error) {
		all, _ := crew.Sweep(p, seeds, 2)
		return all[i], nil
	}
	for _, call := range []func() (api.Result, error){
		func() (api.Result, error) { return crew.Run(p, l) },
		func() (api.Result, error) { return crew.Run(p, tightShop()) },
		func() (api.Result, error) { return crew.Until(p, l, 0) },
		func() (api.Result, error) { return crew.Until(p, l, 3) },
		func() (api.Result, error) { return sweptAt(0) },
		func() (api.Result, error) { return sweptAt(2) },
	} {
		first, err := call()
		want := answer(first, err)
		second, err := call()
		spoilResult(first)
		if got := answer(second, err); got != want {
			t.Errorf("two answers share memory:\n%s\nnot\n%s", got, want)
		}
		third, err := call()
		if got := answer(third, err); got != want {
			t.Errorf("the call answers\n%s\nnot\n%s", got, want)
		}
	}
	for i, part := range p.Parts {
		if !slices.Equal(part.Words, q.Parts[i].Words) {
			t.Error("an answer shares the words of a part")
		}
	}
}

// 0.4: no two lists of one answer lie in one memory.
func TestListsApart(t *testing.T) {
	p, l, seeds := busy(t)
	apart := func(states []api.State) {
		t.Helper()
		for i, v := range states {
			spoil(v.Words, int64(i))
		}
		for i, v := range states {
			if slices.Max(v.Words) != int64(i) || slices.Min(v.Words) != int64(i) {
				t.Fatal("the states of two parts share their words")
			}
		}
	}
	for windows := range 20 {
		r, _ := crew.Until(p, l, windows)
		apart(r.States)
	}
	all, _ := crew.Sweep(p, seeds, 2)
	var states []api.State
	kept := texts(all[1].Trace)
	for _, r := range all {
		states = append(states, r.States...)
	}
	apart(states)
	spoil(all[0].Trace, api.Event{Dst: 5})
	spoil(all[2].Trace, api.Event{Dst: 6})
	if texts(all[1].Trace) != kept {
		t.Error("two traces share memory")
	}
}
