package kernel_test

import (
	"slices"
	"sync"
	"testing"

	"horizon/api"
	"horizon/kernel"
)

// busy is a plan in which everything happens, a layout of three workers for it, and picks to its end; behind each list lies something in its spare room.
func busy(t *testing.T) (api.Plan, api.Layout, []int) {
	t.Helper()
	p := scenario(t, shop)
	l := wide(3, 0, 1, 2, 1)
	p.Starts = append(p.Starts, api.Start{Time: 77})[:2]
	p.Parts = append(p.Parts, api.Part{Program: 77})[:4]
	l.Owner = append(l.Owner, 77)[:4]
	rounds := kernel.Enough(p, l) / 10
	return p, l, append(turnsOf(3, rounds), 77)[:3*rounds]
}

// spoilPlan writes over all that a plan holds.
func spoilPlan(p api.Plan) {
	for _, g := range p.Programs {
		spoil(g.Code, api.Instr{Op: api.IFail, A: 77})
		spoil(g.Entry, 99)
	}
	for _, part := range p.Parts {
		spoil(part.Words, -1)
	}
	spoil(p.Programs, api.Program{})
	spoil(p.Parts, api.Part{Program: 44})
	spoil(p.Starts, api.Start{Time: 1, Dst: 70})
}

func spoilResult(r api.Result) {
	for _, v := range r.States {
		spoil(v.Words, -9)
	}
	spoil(r.States, api.State{Dice: 7})
	spoil(r.Trace, api.Event{Dst: 5})
}

// 0.4: no call changes what is handed in, spare room behind a list's end too.
func TestHandedIn(t *testing.T) {
	p, l, picks := busy(t)
	q, k, same := busy(t)
	kernel.Run(p, l, picks)
	kernel.Fair(p, l, 100)
	kernel.Watch(p, l, picks, func(int, api.View) bool { return true })
	kernel.Enough(p, l)
	kernel.Room(p, l)
	for way := 1; way <= 4; way++ {
		kernel.Spread(p, 3, way)
	}
	if !slices.Equal(picks[:cap(picks)], same[:cap(same)]) || !slices.Equal(l.Owner[:5], k.Owner[:5]) {
		t.Error("picks or owners have changed")
	}
	for i, g := range p.Programs {
		if !slices.Equal(g.Code, q.Programs[i].Code) || !slices.Equal(g.Entry, q.Programs[i].Entry) {
			t.Error("a program has changed")
		}
	}
	for i, part := range p.Parts {
		if part.Program != q.Parts[i].Program || !slices.Equal(part.Words, q.Parts[i].Words) {
			t.Error("a part has changed")
		}
	}
	if !slices.Equal(p.Starts[:3], q.Starts[:3]) || p.Parts[:5][4].Program != 77 {
		t.Error("starts, or what lies behind the parts, have changed")
	}
}

// 0.4, 14.5: who writes into plan, layout, picks or Views while it watches changes nothing.
func TestSpoilWhileWatching(t *testing.T) {
	p, l, picks := busy(t)
	want, _ := kernel.Run(p, l, picks)
	sights, _ := byHand(t, p, l, picks)
	var seen []glimpse
	r, err := kernel.Watch(p, l, picks, func(pick int, v api.View) bool {
		seen = append(seen, glimpse{pick, tellView(v)})
		spoilPlan(p)
		spoil(l.Owner, 63)
		spoil(picks, -1)
		for _, list := range [][]api.Event{v.Pending, v.Log, v.Trace} {
			spoil(list, api.Event{Key: key(1, 1, 1), Dst: 9})
		}
		return true
	})
	wantAnswer(t, "spoilt", r, err, want)
	if want.Kind != api.Done || !slices.Equal(seen, sights) {
		t.Errorf("kind %d, %d sights, or others than the %d", want.Kind, len(seen), len(sights))
	}
}

// 0.3, 0.4: the same call answers the same again, whatever was written into its answer.
func TestHandedOut(t *testing.T) {
	p, l, picks := busy(t)
	for _, call := range []func() (api.Result, error){
		func() (api.Result, error) { return kernel.Run(p, l, picks) },
		func() (api.Result, error) { return kernel.Run(p, l, picks[:200]) },
		func() (api.Result, error) { return kernel.Fair(p, l, 100) },
		func() (api.Result, error) { return kernel.Watch(p, l, picks, func(int, api.View) bool { return true }) },
		func() (api.Result, error) { return kernel.Run(p, tightShop(), picks) },
	} {
		first, err := call()
		want := answer(first, err)
		second, err := call()
		spoilResult(first)
		if got := answer(second, err); got != want {
			t.Errorf("two answers share memory:\n%s\nnot\n%s", got, want)
		}
		third, err := call()
		if got := answer(third, err); got != want {
			t.Errorf("the call answers\n%s\nnot\n%s", got, want)
		}
	}
	for way := 1; way <= 4; way++ {
		a, _ := kernel.Spread(p, 3, way)
		b, _ := kernel.Spread(p, 3, way)
		kept := slices.Clone(b.Owner)
		spoil(a.Owner, -5)
		if c, _ := kernel.Spread(p, 3, way); !slices.Equal(b.Owner, kept) || !slices.Equal(c.Owner, kept) {
			t.Errorf("way %d: two layouts share memory", way)
		}
	}
}

// tightShop is a layout in which the shop finds no room.
func tightShop() api.Layout {
	return api.Layout{Workers: 2, Owner: []int{0, 0, 1, 1}, Arena: 9, Box: 1, Undo: 1}
}

// 0.4: no two lists of one answer lie in one memory.
func TestListsApart(t *testing.T) {
	p, l, picks := busy(t)
	for n := 0; n < len(picks); n += 50 {
		r, _ := kernel.Run(p, l, picks[:n])
		for i, v := range r.States {
			spoil(v.Words, int64(i))
		}
		for i, v := range r.States {
			if slices.Max(v.Words) != int64(i) || slices.Min(v.Words) != int64(i) {
				t.Fatal("the states of two parts share their words")
			}
		}
	}
}

// 0.3: runs side by side know nothing of one another.
func TestSideBySide(t *testing.T) {
	m := maker{chance: 33}
	var wait sync.WaitGroup
	for range 30 {
		p := m.plan(t)
		l := m.layout(p)
		picks := m.whole(t, p, l)
		want, _ := kernel.Run(p, l, picks)
		for range 2 {
			wait.Go(func() {
				if r, _ := kernel.Run(p, l, picks); tell(r) != tell(want) {
					t.Errorf("the answer is\n%s\nnot\n%s", tell(r), tell(want))
				}
				if j, _ := kernel.Room(p, l); tell(promised(p, j)) != tell(want) {
					t.Errorf("Room is %d", j)
				}
			})
		}
	}
	wait.Wait()
}
