package combine_test

import (
	"fmt"
	"runtime"
	"slices"
	"testing"
	"weak"

	"horizon/api"
)

// 0.4, 10.5: the cells that are handed out are nobody else's: who writes over them, or behind them, changes nothing.
func TestCellsAreApart(t *testing.T) {
	c := chance(105)
	for _, workers := range []int{1, 2, 3, 5, 9, 64} {
		n, s := made(t, workers, brackets), newSlow(workers, brackets)
		var lists, kept [][]api.Cell
		for i := range 400 {
			alike(t, n, s, c.thrown(workers, i, "ESSS"))
			l := n.Cells()
			lists, kept = append(lists, l), append(kept, slices.Clone(l))
			if c.below(3) == 0 {
				bad := api.Cell{Up: c.below(2) == 0, Down: c.below(2) == 0}
				at := c.below(len(lists))
				spoil(lists[at], bad)
				spoil(kept[at][:len(kept[at]):len(kept[at])], bad)
				sameLook(t, n, s, "scribbling")
			}
			if c.below(3) == 0 {
				at := c.below(len(lists))
				_ = append(lists[at], api.Cell{Up: true, Down: true})
			}
		}
		for i := range lists {
			if !slices.Equal(lists[i], kept[i]) {
				t.Fatalf("list %d is %v, not %v", i, lists[i], kept[i])
			}
		}
	}
}

// 0.3: two nets know nothing of one another, of one type or of several, nor do barriers.
func TestTwoNets(t *testing.T) {
	quiet := func(a, b string) string { return "" }
	c := chance(3)
	var nets []net
	var slows []*slow
	for workers := 1; workers <= 4; workers++ {
		nets = append(nets, made(t, workers, brackets), plain{madeBarrier(t, workers)})
		slows = append(slows, newSlow(workers, brackets), newSlow(workers, quiet))
	}
	for i := range 4000 {
		at := c.below(len(nets))
		x := c.thrown(slows[at].workers, i, "ESSS")
		if at%2 == 1 {
			x.v = ""
		}
		alike(t, nets[at], slows[at], x)
		for j := range nets {
			sameLook(t, nets[j], slows[j], fmt.Sprint(x, " on net ", at))
		}
	}
}

// 0.3: the same calls are answered alike again.
func TestSameCallsSameAnswers(t *testing.T) {
	a, b := made(t, 5, brackets), made(t, 5, brackets)
	c := chance(90)
	for i := range 5000 {
		x := c.thrown(5, i, "ESSSS")
		if x1, x2 := do(a, x), do(b, x); x1 != x2 || !slices.Equal(look(a, 5), look(b, 5)) {
			t.Fatalf("%v is %v, then %v", x, x1, x2)
		}
	}
}

// 10.2: what a worker brings is the value as it was then; what it points to is not copied.
func TestValuesAreKeptAsHandedIn(t *testing.T) {
	type pair struct {
		numbers [2]int
		to      *int
	}
	x := 5
	v := pair{[2]int{1, 2}, &x}
	n := made[pair](t, 2, nil)
	n.Enter(0, v)
	v.numbers[0] = 10
	n.Enter(1, v)
	for range 3 {
		n.Step(1)
		n.Step(0)
	}
	got, code := n.Value(0)
	if got.numbers != [2]int{1, 2} || got.to != &x || code != api.OK {
		t.Errorf("Value is %v, %d", got, code)
	}
	got.numbers[1] = 20
	if again, _ := n.Value(0); again.numbers != [2]int{1, 2} {
		t.Errorf("Value is %v behind a change of what it told", again)
	}
}

type big [100]int

// watched is new things and, by their places, what tells whether they are still held on to.
func watched(n int) (things []*big, watch []weak.Pointer[big]) {
	for range n {
		x := new(big)
		things, watch = append(things, x), append(watch, weak.Make(x))
	}
	return things, watch
}

// held is how many of them something holds on to.
func held(watch []weak.Pointer[big]) int {
	for range 5 {
		runtime.GC()
	}
	n := 0
	for _, x := range watch {
		if x.Value() != nil {
			n++
		}
	}
	return n
}

// Language, 8: behind a round a net holds on to the joined value alone.
func TestHoldsOnToTheJoinedValueAlone(t *testing.T) {
	for _, workers := range []int{1, 2, 3, 10, 64} {
		n := made[*big](t, workers, nil)
		bring := func() []weak.Pointer[big] {
			things, watch := watched(workers)
			for w, x := range things {
				n.Enter(w, x)
			}
			return watch
		}
		through := func(round int) {
			for range 5 * levels(workers) {
				for w := range workers {
					n.Step(w)
				}
			}
			if !allThrough(n, workers, round) {
				t.Fatalf("not all are through round %d", round)
			}
		}
		first := bring()
		if k := held(first); k != workers {
			t.Errorf("%d workers: %d of what was brought is held on to", workers, k)
		}
		through(1)
		if k := held(first); k != 1 || first[0].Value() == nil {
			t.Errorf("%d workers: %d things are held on to behind a round", workers, k)
		}
		second := bring()
		if k := held(first); k != 1 {
			t.Errorf("%d workers: of round 1, %d things are held on to within round 2", workers, k)
		}
		through(2)
		if k := held(first); k != 0 {
			t.Errorf("%d workers: of round 1, %d things are held on to behind round 2", workers, k)
		}
		if k := held(second); k != 1 {
			t.Errorf("%d workers: %d things are held on to behind round 2", workers, k)
		}
		runtime.KeepAlive(n)
	}
}
