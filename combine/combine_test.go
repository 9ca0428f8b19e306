package combine_test

import (
	"fmt"
	"math"
	"runtime"
	"slices"
	"strings"
	"testing"

	"horizon/api"
	"horizon/combine"
)

// 10.1, 10.6: how many workers there may be; with an error there is neither a net nor a barrier.
func TestNew(t *testing.T) {
	for _, workers := range []int{math.MinInt, -64, -1, 0, 1, 2, 63, 64, 65, 1 << 32, 1<<32 + 1, math.MaxInt} {
		want := api.OK
		if workers < 1 || workers > 64 {
			want = api.ErrWorkers
		}
		if n, code := combine.New(workers, minus); code != want || (n == nil) != (want != api.OK) {
			t.Errorf("New(%d) is %v, %d, not %d", workers, n != nil, code, want)
		}
		if n, code := combine.New[string](workers, nil); code != want || (n == nil) != (want != api.OK) {
			t.Errorf("New(%d, nil) is %v, %d, not %d", workers, n != nil, code, want)
		}
		if b, code := combine.NewBarrier(workers); code != want || (b == nil) != (want != api.OK) {
			t.Errorf("NewBarrier(%d) is %v, %d, not %d", workers, b != nil, code, want)
		}
	}
	if api.MaxWorkers != 64 {
		t.Error("the limit is another")
	}
}

// 10.1: in a new net all are outside and through no round, all flags are false.
func TestNewIsQuiet(t *testing.T) {
	for _, workers := range []int{1, 2, 3, 64} {
		for _, n := range []net{made(t, workers, brackets), plain{madeBarrier(t, workers)}} {
			if l := n.Cells(); !slices.Equal(l, make([]api.Cell, workers)) {
				t.Errorf("%d workers: the cells are %v", workers, l)
			}
			for w := range workers {
				v, code := n.Value(w)
				ok, out := n.Step(w)
				if n.Inside(w) || n.Rounds(w) != 0 || v != "" || code != api.ErrEmpty || ok || out != api.ErrOutside {
					t.Errorf("worker %d of %d: %v, %d, %q, %d, %v, %d", w, workers, n.Inside(w), n.Rounds(w), v, code, ok, out)
				}
			}
		}
	}
}

// played lets all workers of a net come through a round with these values.
func played[T any](n *combine.Net[T], values ...T) {
	for w, v := range values {
		n.Enter(w, v)
	}
	for turn := 0; somebodyInside(n, len(values)); turn++ {
		for w := range values {
			n.Step(w)
		}
		if turn > 1000 {
			panic("the workers wait for ever")
		}
	}
}

func somebodyInside[T any](n *combine.Net[T], workers int) bool {
	for w := range workers {
		if n.Inside(w) {
			return true
		}
	}
	return false
}

// 10.1: without a join the first argument stands: the root's value.
func TestNoJoin(t *testing.T) {
	for workers := 1; workers <= 64; workers++ {
		n, m := made[int](t, workers, nil), made(t, workers, func(a, b int) int { return a })
		values := make([]int, workers)
		for round := range 3 {
			for w := range values {
				values[w] = 100*round + w + 5
			}
			for _, n := range []*combine.Net[int]{n, m} {
				played(n, values...)
				for w := range workers {
					if v, code := n.Value(w); v != 100*round+5 || code != api.OK {
						t.Fatalf("worker %d of %d, round %d: %d, %d", w, workers, round, v, code)
					}
				}
			}
		}
	}
}

// 10.1: join is called by Step alone, within the call, and on nothing but what was brought and joined.
func TestWhenJoinIsCalled(t *testing.T) {
	var pairs [][2]int
	n := made(t, 3, func(a, b int) int {
		pairs = append(pairs, [2]int{a, b})
		return a + b
	})
	quiet := func(what string) {
		t.Helper()
		if len(pairs) > 0 {
			t.Errorf("%s joins %v", what, pairs)
		}
	}
	look := func() {
		for w := -1; w < 4; w++ {
			n.Value(w)
			n.Rounds(w)
			n.Inside(w)
		}
		n.Cells()
	}
	look()
	for w := range 3 {
		n.Enter(w, 1<<w)
		n.Enter(w, 64)
		n.Enter(w+3, 64)
	}
	look()
	quiet("Enter, or a look,")
	n.Step(0)
	quiet("a step that waits")
	for w := range 4 {
		n.Step(w)
	}
	for range 4 {
		n.Step(0)
	}
	if len(pairs) == 0 {
		t.Error("no step joins")
	}
	for _, p := range pairs {
		if p != [2]int{1, 2} && p != [2]int{3, 4} {
			t.Errorf("%d and %d are joined", p[0], p[1])
		}
	}
	pairs = nil
	n.Enter(0, 8)
	look()
	quiet("Enter, or a look, behind a round")
	for range 4 {
		n.Step(1)
		n.Step(2)
	}
	look()
	quiet("a worker without children")
	if v, code := n.Value(2); v != 7 || code != api.OK {
		t.Errorf("Value(2) is %d, %d", v, code)
	}
}

// 10.2 to 10.5, the chapter's examples: one worker.
func TestAlone(t *testing.T) {
	n := made(t, 1, minus)
	enter(t, n, 0, 7, api.OK)
	step(t, n, 0, true, api.OK)
	value(t, n, 0, 7, api.OK)
	if n.Rounds(0) != 1 {
		t.Errorf("Rounds is %d", n.Rounds(0))
	}
	cells(t, n, api.Cell{Down: true})
	enter(t, n, 0, 8, api.OK)
	value(t, n, 0, 7, api.OK)
	enter(t, n, 0, 9, api.ErrInside)
	step(t, n, 0, true, api.OK)
	value(t, n, 0, 8, api.OK)
	cells(t, n, api.Cell{})
}

// 10.2 to 10.5, the chapter's examples: two workers, a step at a time.
func TestTwo(t *testing.T) {
	n := made(t, 2, minus)
	value(t, n, 1, 0, api.ErrEmpty)
	step(t, n, 1, false, api.ErrOutside)
	enter(t, n, 0, 10, api.OK)
	step(t, n, 0, false, api.OK)
	step(t, n, 0, false, api.OK)
	enter(t, n, 1, 3, api.OK)
	cells(t, n, api.Cell{}, api.Cell{})
	step(t, n, 1, false, api.OK)
	cells(t, n, api.Cell{}, api.Cell{Up: true})
	step(t, n, 1, false, api.OK)
	step(t, n, 0, false, api.OK)
	cells(t, n, api.Cell{}, api.Cell{Up: true})
	step(t, n, 0, true, api.OK)
	cells(t, n, api.Cell{Down: true}, api.Cell{Up: true})
	step(t, n, 1, false, api.OK)
	cells(t, n, api.Cell{Down: true}, api.Cell{Up: true})
	step(t, n, 1, true, api.OK)
	value(t, n, 0, 7, api.OK)
	value(t, n, 1, 7, api.OK)
	cells(t, n, api.Cell{Down: true}, api.Cell{Up: true, Down: true})
}

func enter(t *testing.T, n *combine.Net[int], w, v int, want api.Errno) {
	t.Helper()
	if code := n.Enter(w, v); code != want {
		t.Errorf("Enter(%d, %d) is %d, not %d", w, v, code, want)
	}
}

func step(t *testing.T, n *combine.Net[int], w int, want bool, code api.Errno) {
	t.Helper()
	if ok, c := n.Step(w); ok != want || c != code {
		t.Errorf("Step(%d) is %v, %d, not %v, %d", w, ok, c, want, code)
	}
}

func value(t *testing.T, n *combine.Net[int], w, want int, code api.Errno) {
	t.Helper()
	if v, c := n.Value(w); v != want || c != code {
		t.Errorf("Value(%d) is %d, %d, not %d, %d", w, v, c, want, code)
	}
}

func cells(t *testing.T, n *combine.Net[int], want ...api.Cell) {
	t.Helper()
	if l := n.Cells(); !slices.Equal(l, want) {
		t.Errorf("Cells is %v, not %v", l, want)
	}
}

// 10.3: in which order values are joined.
func TestOrderOfJoining(t *testing.T) {
	for _, x := range []struct{ workers, want int }{{1, 1}, {2, 12}, {3, 123}, {4, 343}, {5, 10*(10+10*24+5) + 3}} {
		n := made(t, x.workers, digits)
		played(n, []int{1, 2, 3, 4, 5}[:x.workers]...)
		for w := range x.workers {
			value(t, n, w, x.want, api.OK)
		}
	}
	n := made(t, 7, brackets)
	played(n, strings.Split("abcdefg", "")...)
	if v, _ := n.Value(6); v != "((a+((b+d)+e))+((c+f)+g))" {
		t.Errorf("of 7: %s", v)
	}
	m := made(t, 6, brackets)
	played(m, strings.Split("abcdef", "")...)
	if v, _ := m.Value(5); v != "((a+((b+d)+e))+(c+f))" {
		t.Errorf("of 6: %s", v)
	}
}

// 10.3: how many steps each worker takes, if nothing keeps it waiting: one for each thing that it has use for.
func TestHowManySteps(t *testing.T) {
	for workers := 1; workers <= 64; workers++ {
		n := made(t, workers, brackets)
		for round := range 3 {
			took := make([]int, workers)
			for w := range workers {
				n.Enter(w, fmt.Sprint(w, "-", round))
			}
			// Children ahead of parents up to the step that lays open what they have, then parents ahead of children.
			for w := workers - 1; w >= 0; w-- {
				for before := n.Cells()[w]; n.Cells()[w] == before && took[w] < 9; took[w]++ {
					n.Step(w)
				}
			}
			for w := range workers {
				for ; n.Inside(w) && took[w] < 9; took[w]++ {
					n.Step(w)
				}
				want := 1
				if w > 0 {
					want += 2
				}
				if 2*w+1 < workers {
					want++
				}
				if 2*w+2 < workers {
					want++
				}
				if took[w] != want {
					t.Fatalf("worker %d of %d takes %d steps in round %d, not %d", w, workers, took[w], round+1, want)
				}
			}
		}
	}
}

// 10.3: a worker that is stepped once more enters nothing by itself.
func TestStepBehindARound(t *testing.T) {
	n := made(t, 1, minus)
	enter(t, n, 0, 5, api.OK)
	step(t, n, 0, true, api.OK)
	step(t, n, 0, false, api.ErrOutside)
	if n.Rounds(0) != 1 || n.Inside(0) {
		t.Errorf("%d rounds, inside %v", n.Rounds(0), n.Inside(0))
	}
	value(t, n, 0, 5, api.OK)
}

// 10.2 to 10.6, 0.2: who is no worker is refused, whoever is inside, and nothing changes.
func TestNoSuchWorker(t *testing.T) {
	for _, workers := range []int{1, 2, 63, 64} {
		n, b := made(t, workers, minus), madeBarrier(t, workers)
		played(n, make([]int, workers)...)
		enter(t, n, 0, 5, api.OK)
		b.Wait(0)
		was, wasB := n.Cells(), b.Cells()
		for _, w := range []int{-1, -2, workers, workers + 1, 65, 1 << 32, -1 << 32, math.MinInt, math.MaxInt, math.MaxInt / 2} {
			enter(t, n, w, 9, api.ErrWho)
			step(t, n, w, false, api.ErrWho)
			value(t, n, w, 0, api.ErrWho)
			if n.Rounds(w) != 0 || n.Inside(w) {
				t.Errorf("worker %d of %d: %d rounds, inside %v", w, workers, n.Rounds(w), n.Inside(w))
			}
			if ok, code := b.Wait(w); ok || code != api.ErrWho {
				t.Errorf("Wait(%d) is %v, %d", w, ok, code)
			}
			if _, code := b.Value(w); code != api.ErrWho || b.Enter(w, struct{}{}) != api.ErrWho || b.Rounds(w) != 0 || b.Inside(w) {
				t.Errorf("worker %d of a barrier of %d is known", w, workers)
			}
		}
		if !slices.Equal(n.Cells(), was) || !slices.Equal(b.Cells(), wasB) {
			t.Error("a refused call changes cells")
		}
	}
}

// 10.2: a worker that is inside keeps the value that it entered with.
func TestRefusedValueIsNotBrought(t *testing.T) {
	n := made(t, 2, digits)
	enter(t, n, 0, 1, api.OK)
	enter(t, n, 0, 3, api.ErrInside)
	enter(t, n, 1, 2, api.OK)
	enter(t, n, 1, 4, api.ErrInside)
	step(t, n, 1, false, api.OK)
	enter(t, n, 1, 5, api.ErrInside)
	step(t, n, 0, false, api.OK)
	enter(t, n, 0, 6, api.ErrInside)
	step(t, n, 0, true, api.OK)
	step(t, n, 1, false, api.OK)
	enter(t, n, 1, 7, api.ErrInside)
	step(t, n, 1, true, api.OK)
	value(t, n, 0, 12, api.OK)
	value(t, n, 1, 12, api.OK)
}

// 10.6, the chapter's example.
func TestBarrier(t *testing.T) {
	b := madeBarrier(t, 2)
	for i, x := range []struct {
		w    int
		want bool
	}{{0, false}, {0, false}, {1, false}, {0, false}, {0, true}, {1, false}, {1, true}} {
		if ok, code := b.Wait(x.w); ok != x.want || code != api.OK {
			t.Errorf("call %d: Wait(%d) is %v, %d", i, x.w, ok, code)
		}
	}
	if ok, code := b.Wait(2); ok || code != api.ErrWho {
		t.Errorf("Wait(2) is %v, %d", ok, code)
	}
}

// 10.6: a Wait of one that is inside does not enter again; the calls of a net tell of the same workers, and may take the place of a Wait.
func TestBarrierIsANet(t *testing.T) {
	b := madeBarrier(t, 1)
	if b.Enter(0, struct{}{}) != api.OK || !b.Inside(0) {
		t.Fatal("Enter is refused")
	}
	if ok, code := b.Wait(0); !ok || code != api.OK || b.Rounds(0) != 1 || b.Inside(0) {
		t.Errorf("Wait is %v, %d", ok, code)
	}
	if _, code := b.Value(0); code != api.OK {
		t.Errorf("Value is %d", code)
	}
	if ok, code := b.Step(0); ok || code != api.ErrOutside {
		t.Errorf("Step is %v, %d", ok, code)
	}
	two := madeBarrier(t, 2)
	two.Wait(1)
	if code := two.Enter(1, struct{}{}); code != api.ErrInside || !two.Inside(1) || two.Inside(0) {
		t.Errorf("Enter behind a Wait is %d", code)
	}
	if l := two.Cells(); !slices.Equal(l, []api.Cell{{}, {Up: true}}) {
		t.Errorf("Cells is %v", l)
	}
	two.Wait(0)
	if ok, code := two.Step(0); !ok || code != api.OK || two.Rounds(0) != 1 {
		t.Errorf("Step behind a Wait is %v, %d", ok, code)
	}
}

// 10.1: anything may be joined.
func TestAnyType(t *testing.T) {
	lists := made(t, 3, func(a, b []int) []int { return slices.Concat(a, b) })
	played(lists, []int{1}, []int{2, 3}, nil)
	if v, code := lists.Value(2); !slices.Equal(v, []int{1, 2, 3}) || code != api.OK {
		t.Errorf("of lists: %v, %d", v, code)
	}
	votes := made(t, 3, combine.Least)
	played(votes, api.Vote{Low: 9, Any: true, Count: 1}, api.Vote{Low: 3}, api.Vote{Low: 4, Any: true, Count: 5})
	if v, code := votes.Value(1); v != (api.Vote{Low: 4, Any: true, Count: 6}) || code != api.OK {
		t.Errorf("of votes: %v, %d", v, code)
	}
	funcs := made[func() int](t, 2, nil)
	played(funcs, func() int { return 1 }, func() int { return 2 })
	if v, code := funcs.Value(1); v() != 1 || code != api.OK {
		t.Errorf("of functions: %d", code)
	}
	anys := made(t, 2, func(a, b any) any { return b })
	played[any](anys, 1, nil)
	if v, code := anys.Value(0); v != nil || code != api.OK {
		t.Errorf("of any: %v, %d", v, code)
	}
}

// 0.5: a net starts no goroutine.
func TestNoGoroutine(t *testing.T) {
	before := runtime.NumGoroutine()
	n, b := made(t, 64, minus), madeBarrier(t, 64)
	played(n, make([]int, 64)...)
	b.Wait(3)
	if after := runtime.NumGoroutine(); after > before {
		t.Errorf("%d goroutines, not %d", after, before)
	}
	runtime.KeepAlive(n)
	runtime.KeepAlive(b)
}
