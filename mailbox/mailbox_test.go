package mailbox_test

import (
	"fmt"
	"math"
	"runtime"
	"slices"
	"strings"
	"testing"

	"horizon/api"
	"horizon/mailbox"
)

// 9.1: how many workers and how much room there may be, the workers asked first; with an error there is no post.
func TestNew(t *testing.T) {
	for _, workers := range []int{math.MinInt, -1, 0, 1, 2, 63, 64, 65, 1 << 32, math.MaxInt} {
		for _, room := range []int{math.MinInt, -1, 0, 1, 2, 1023, 1024, 1025, 1<<32 + 1, math.MaxInt} {
			want := api.OK
			switch {
			case workers < 1 || workers > 64:
				want = api.ErrWorkers
			case room < 1 || room > 1024:
				want = api.ErrRoom
			}
			p, code := mailbox.New(workers, room, byNumber)
			if code != want || (p == nil) != (want != api.OK) {
				t.Errorf("New(%d, %d) is %v, %d, not %d", workers, room, p != nil, code, want)
			}
			q, code := mailbox.New[string](workers, room, nil)
			if code != want || (q == nil) != (want != api.OK) {
				t.Errorf("New(%d, %d, nil) is %v, %d, not %d", workers, room, q != nil, code, want)
			}
		}
	}
	if api.MaxWorkers != 64 || api.MaxBox != 1024 {
		t.Error("the limits are others")
	}
}

// 9.1: in a new post nothing lies, all are in phase 0, nobody has failed.
func TestNewIsEmpty(t *testing.T) {
	for _, workers := range []int{1, 2, 64} {
		p := made(t, workers, 3, byNumber)
		for w := range workers {
			n, code := p.Waiting(w)
			if p.Phase(w) != 0 || n != 0 || code != api.OK || p.Err(w) != api.OK {
				t.Errorf("worker %d of %d: phase %d, waiting %d, %d, err %d", w, workers, p.Phase(w), n, code, p.Err(w))
			}
			if l, code := p.Drain(w); len(l) != 0 || code != api.OK {
				t.Errorf("worker %d of %d: Drain is %v, %d", w, workers, l, code)
			}
			if n, code := p.Drop(w); n != 0 || code != api.OK {
				t.Errorf("worker %d of %d: Drop is %d, %d", w, workers, n, code)
			}
		}
	}
}

// 9.1: without a compare all things are equal.
func TestNoCompare(t *testing.T) {
	p, q := made[int](t, 3, 9, nil), made(t, 3, 9, func(a, b int) int { return 0 })
	want := []int{5, 3, 4, 9, 1, 2}
	for _, p := range []*mailbox.Post[int]{p, q} {
		for _, x := range []struct{ from, v int }{{2, 1}, {0, 5}, {1, 9}, {0, 3}, {2, 2}, {0, 4}} {
			p.Send(x.from, 1, x.v)
		}
		for w := range 3 {
			p.Flip(w)
		}
		if l, code := p.Drain(1); !slices.Equal(l, want) || code != api.OK {
			t.Errorf("Drain is %v, %d, not %v", l, code, want)
		}
	}
}

// 9.1: compare is called by Drain alone, from within the call, and on what the Drain hands out.
func TestWhenCompareIsCalled(t *testing.T) {
	var pairs [][2]int
	p := made(t, 2, 9, func(a, b int) int {
		pairs = append(pairs, [2]int{a, b})
		return a - b
	})
	quiet := func(what string) {
		t.Helper()
		if len(pairs) > 0 {
			t.Errorf("%s compares %v", what, pairs)
		}
	}
	for v := range 8 {
		p.Send(0, 1, 50-v)
		p.Send(1, 0, v)
	}
	quiet("Send")
	p.Flip(0)
	p.Flip(1)
	quiet("Flip")
	p.Send(0, 1, 1)
	p.Send(0, 1, 2)
	p.Waiting(1)
	p.Phase(1)
	p.Err(1)
	p.Drop(1)
	quiet("a look, or Drop,")
	l, _ := p.Drain(1)
	if len(l) != 8 || len(pairs) == 0 {
		t.Fatalf("Drain is %v, with %d compares", l, len(pairs))
	}
	for _, x := range pairs {
		if !slices.Contains(l, x[0]) || !slices.Contains(l, x[1]) {
			t.Errorf("Drain compares %v, of which it hands out %v", x, l)
		}
	}
}

// 9.1: a post holds no goroutine.
func TestNoGoroutine(t *testing.T) {
	before := runtime.NumGoroutine()
	var kept []*mailbox.Post[int]
	for range 20 {
		p := made(t, 64, 9, byNumber)
		p.Send(0, 1, 5)
		for w := range 64 {
			p.Flip(w)
		}
		p.Drain(1)
		kept = append(kept, p)
	}
	if n := runtime.NumGoroutine(); n > before {
		t.Errorf("%d goroutines, not %d", n, before)
	}
	runtime.KeepAlive(kept)
}

// 9.1: a thing is a copy of the value; what it points to is not copied.
func TestThingsAreKeptAsHandedIn(t *testing.T) {
	type pair struct {
		numbers [2]int
		list    []int
		to      *int
	}
	p := made[pair](t, 1, 4, nil)
	x := 5
	v := pair{[2]int{1, 2}, []int{3, 4}, &x}
	p.Send(0, 0, v)
	v.numbers[0], v.list[0], x = 10, 30, 50
	p.Send(0, 0, v)
	v = pair{}
	p.Flip(0)
	l, _ := p.Drain(0)
	if len(l) != 2 || l[0].numbers != [2]int{1, 2} || l[1].numbers != [2]int{10, 2} {
		t.Fatalf("Drain is %v", l)
	}
	if l[0].list[0] != 30 || &l[0].list[0] != &l[1].list[0] || l[0].to != &x || l[1].to != &x {
		t.Errorf("what the things point to was copied: %v", l)
	}
}

// 9.1: anything may be sent.
func TestAnyType(t *testing.T) {
	words := made(t, 1, 4, strings.Compare)
	none := made[struct{}](t, 1, 4, nil)
	any1 := made[any](t, 1, 4, nil)
	funcs := made[func() int](t, 1, 4, nil)
	for i, w := range []string{"b", "", "a"} {
		words.Send(0, 0, w)
		none.Send(0, 0, struct{}{})
		any1.Send(0, 0, []any{nil, 1, w}[i])
		funcs.Send(0, 0, func() int { return i })
	}
	words.Flip(0)
	none.Flip(0)
	any1.Flip(0)
	funcs.Flip(0)
	a, _ := words.Drain(0)
	b, _ := none.Drain(0)
	c, _ := any1.Drain(0)
	d, _ := funcs.Drain(0)
	if !slices.Equal(a, []string{"", "a", "b"}) || len(b) != 3 || !slices.Equal(c, []any{nil, 1, "a"}) {
		t.Errorf("Drain is %v, %v, %v", a, b, c)
	}
	if len(d) != 3 || d[0]() != 0 || d[1]() != 1 || d[2]() != 2 {
		t.Errorf("Drain hands out %d functions", len(d))
	}
}

// 9.2: the errors of a Send in their order; the first one that lasts is kept.
func TestSendErrors(t *testing.T) {
	for _, nobody := range []int{math.MinInt, -1, 2, 3, 1 << 32, math.MaxInt} {
		p := made(t, 2, 1, byNumber)
		is := func(what string, got, want api.Errno) {
			t.Helper()
			if got != want {
				t.Errorf("nobody is %d: %s is %d, not %d", nobody, what, got, want)
			}
		}
		is("Send from nobody", p.Send(nobody, 0, 1), api.ErrWho)
		is("Send from nobody to nobody", p.Send(nobody, nobody, 1), api.ErrWho)
		is("Err(0)", p.Err(0), api.OK)
		is("Err(1)", p.Err(1), api.OK)
		is("Send", p.Send(0, 1, 1), api.OK)
		is("Send to nobody", p.Send(0, nobody, 1), api.ErrWho)
		is("Err(0)", p.Err(0), api.ErrWho)
		is("Send to a full box of one who has failed", p.Send(0, 1, 1), api.ErrWho)
		is("Send to an empty box of one who has failed", p.Send(0, 0, 1), api.ErrWho)
		is("Err(0)", p.Err(0), api.ErrWho)
		is("Err(1)", p.Err(1), api.OK)

		is("Send of another", p.Send(1, 1, 1), api.OK)
		is("Send to a full box", p.Send(1, 1, 1), api.ErrBox)
		is("Send to nobody of one who has failed", p.Send(1, nobody, 1), api.ErrBox)
		is("Send to an empty box of one who has failed", p.Send(1, 0, 1), api.ErrBox)
		is("Send from nobody, where all have failed", p.Send(nobody, 0, 1), api.ErrWho)
		is("Err(1)", p.Err(1), api.ErrBox)
		is("Err(0)", p.Err(0), api.ErrWho)
		for w, want := range []int{0, 2} {
			if n, code := p.Waiting(w); n != want || code != api.OK {
				t.Errorf("Waiting(%d) is %d, %d, not %d", w, n, code, want)
			}
		}
	}
}

// 9.2: each half of each box has its own room; a full one hinders no other.
func TestEachHalfHasItsRoom(t *testing.T) {
	for _, x := range []struct{ workers, room int }{{1, 1}, {1, 1024}, {2, 1}, {2, 2}, {3, 7}, {2, 1023}, {64, 1}, {64, 2}} {
		p := made(t, x.workers, x.room, byNumber)
		fill := func() {
			t.Helper()
			for from := range x.workers {
				for to := range x.workers {
					for i := range x.room {
						if code := p.Send(from, to, i); code != api.OK {
							t.Fatalf("%v: Send(%d, %d, %d) is %d", x, from, to, i, code)
						}
					}
				}
			}
		}
		for range 4 {
			fill()
			for w := range x.workers {
				if code := p.Send(w, x.workers-1-w, 1); code != api.ErrBox {
					t.Fatalf("%v: one more is %d", x, code)
				}
				if n, code := p.Drop(w); n != x.workers*x.room || code != api.OK {
					t.Fatalf("%v: Drop(%d) is %d, %d", x, w, n, code)
				}
			}
			fill()
			for w := range x.workers {
				if code := p.Flip(w); code != api.OK {
					t.Fatalf("%v: Flip(%d) is %d", x, w, code)
				}
			}
			// The things of the phase ahead still lie there, and don't count.
			fill()
			for w := range x.workers {
				if n, code := p.Waiting(w); n != 2*x.workers*x.room || code != api.OK {
					t.Fatalf("%v: Waiting(%d) is %d, %d", x, w, n, code)
				}
				if code := p.Send(w, w, 1); code != api.ErrBox {
					t.Fatalf("%v: one more in the other half is %d", x, code)
				}
				if l, code := p.Drain(w); len(l) != x.workers*x.room || code != api.OK || !slices.IsSorted(l) {
					t.Fatalf("%v: Drain(%d) is %d things, %d", x, w, len(l), code)
				}
			}
			for w := range x.workers {
				if n, _ := p.Drop(w); n != x.workers*x.room {
					t.Fatalf("%v: Drop(%d) is %d", x, w, n)
				}
			}
		}
	}
}

// 9.3: the errors of a Flip in their order; with an error the phase stays.
func TestFlipErrors(t *testing.T) {
	p := made(t, 3, 1, byNumber)
	is := func(w int, want api.Errno, phase int) {
		t.Helper()
		if code := p.Flip(w); code != want || p.Phase(w) != phase {
			t.Errorf("Flip(%d) is %d, phase %d, not %d, %d", w, code, p.Phase(w), want, phase)
		}
	}
	for _, nobody := range []int{math.MinInt, -1, 3, 4, math.MaxInt} {
		is(nobody, api.ErrWho, -1)
	}
	p.Send(0, 0, 1)
	p.Send(0, 0, 2)
	is(0, api.ErrBox, 0) // failed
	p.Drop(0)
	p.Send(0, 0, 1)
	p.Send(1, 2, 1)
	is(0, api.OK, 1)
	is(0, api.ErrPhase, 1) // others are behind
	is(1, api.OK, 1)
	is(0, api.ErrPhase, 1) // another is behind
	p.Send(0, 7, 1)
	is(0, api.ErrWho, 1) // failed, behind which the others are
	p.Drop(0)
	is(2, api.OK, 1)
	is(0, api.ErrPhase, 1) // it has sent to itself, and lies for itself
	is(1, api.ErrPhase, 1) // what it sent lies for 2
	is(2, api.ErrPhase, 1) // something of 1 lies for it
	p.Send(2, 7, 1)
	is(2, api.ErrWho, 1) // failed, with something to fetch
	p.Drop(2)
	p.Drain(0)
	is(0, api.OK, 2)
	is(1, api.ErrPhase, 1)
	is(2, api.ErrPhase, 1)
	p.Drain(2)
	is(2, api.OK, 2)
	is(0, api.ErrPhase, 2)
	is(1, api.OK, 2)
}

// 9.3: what others sent to others, what a faster one has sent, and what a worker has sent in its present phase hold nobody up.
func TestWhatHoldsNobodyUp(t *testing.T) {
	p := made(t, 4, 2, byNumber)
	p.Send(2, 3, 1)
	for w := range 4 {
		p.Flip(w)
	}
	if code := p.Flip(0); code != api.OK { // 1 lies from 2 to 3
		t.Errorf("Flip(0) is %d", code)
	}
	p.Send(0, 1, 5) // of phase 2, in the half of phase 0
	p.Send(1, 0, 6)
	p.Send(1, 1, 6)
	if code := p.Flip(1); code != api.OK {
		t.Errorf("Flip(1) is %d", code)
	}
	for _, w := range []int{2, 3} {
		if code := p.Flip(w); code != api.ErrPhase {
			t.Errorf("Flip(%d) is %d", w, code)
		}
	}
	if l, code := p.Drain(3); !slices.Equal(l, []int{1}) || code != api.OK {
		t.Errorf("Drain(3) is %v, %d", l, code)
	}
}

// 9.3, 9.4: one who is alone flips as often as it likes; no two are ever more than one phase apart.
func TestPhases(t *testing.T) {
	p := made(t, 1, 1, byNumber)
	for i := range 1000 {
		if p.Phase(0) != i || p.Flip(0) != api.OK {
			t.Fatalf("phase %d, not %d", p.Phase(0), i)
		}
	}
	for _, nobody := range []int{math.MinInt, -1, 1, 2, math.MaxInt} {
		if x := p.Phase(nobody); x != -1 {
			t.Errorf("Phase(%d) is %d", nobody, x)
		}
	}
	q := made(t, 64, 1, byNumber)
	c := chance(93)
	for range 20000 {
		w := c.below(64)
		low, high := 1<<40, -1
		for v := range 64 {
			low, high = min(low, q.Phase(v)), max(high, q.Phase(v))
		}
		if high-low > 1 {
			t.Fatalf("phases from %d to %d", low, high)
		}
		want := api.OK
		if q.Phase(w) > low {
			want = api.ErrPhase
		}
		if code := q.Flip(w); code != want {
			t.Fatalf("Flip(%d) is %d, not %d", w, code, want)
		}
	}
}

// 9.5: the errors of a Drain in their order; with an error nothing is taken; one who has failed may drain.
func TestDrainErrors(t *testing.T) {
	p := made(t, 2, 1, byNumber)
	for _, nobody := range []int{math.MinInt, -1, 2, math.MaxInt} {
		if l, code := p.Drain(nobody); l != nil || code != api.ErrWho {
			t.Errorf("Drain(%d) is %v, %d", nobody, l, code)
		}
	}
	p.Send(0, 0, 5)
	p.Flip(0)
	if l, code := p.Drain(0); l != nil || code != api.ErrPhase {
		t.Errorf("with another behind, Drain is %v, %d", l, code)
	}
	if n, _ := p.Waiting(0); n != 1 {
		t.Errorf("Waiting is %d", n)
	}
	p.Flip(1)
	p.Send(0, 9, 1)
	if l, code := p.Drain(0); !slices.Equal(l, []int{5}) || code != api.OK {
		t.Errorf("of one who has failed, Drain is %v, %d", l, code)
	}
	if l, code := p.Drain(0); len(l) != 0 || code != api.OK || p.Err(0) != api.ErrWho {
		t.Errorf("a second Drain is %v, %d, Err %d", l, code, p.Err(0))
	}
}

// 9.5: a Drain leaves alone what was sent in the receiver's present phase, and what faster ones have sent in their next, in whichever phase it is.
func TestDrainLeavesOtherPhases(t *testing.T) {
	p := made(t, 3, 4, byNumber)
	for phase := range 5 {
		// 0 is ahead: what it sends now is of the phase that the half of the phase ahead of 1's and 2's has, too.
		p.Send(0, 1, 10*phase+1)
		p.Send(1, 1, 10*phase+2)
		p.Send(2, 1, 10*phase+3)
		if code := p.Flip(0); code != api.OK {
			t.Fatalf("phase %d: Flip(0) is %d", phase, code)
		}
		p.Send(0, 1, 10*phase+11)
		for _, w := range []int{1, 2} {
			if l, code := p.Drain(w); len(l) != 0 || code != api.OK {
				t.Fatalf("phase %d: Drain(%d) is %v, %d", phase, w, l, code)
			}
		}
		if n, _ := p.Waiting(1); n != 4 {
			t.Fatalf("phase %d: Waiting(1) is %d", phase, n)
		}
		p.Flip(1)
		p.Send(1, 1, 10*phase+12)
		p.Flip(2)
		p.Send(2, 1, 10*phase+13)
		if l, code := p.Drain(1); !slices.Equal(l, []int{10*phase + 1, 10*phase + 2, 10*phase + 3}) || code != api.OK {
			t.Fatalf("phase %d: Drain(1) is %v, %d", phase, l, code)
		}
		for w := range 3 {
			if n, code := p.Drop(w); n != 1 || code != api.OK {
				t.Fatalf("phase %d: Drop(%d) is %d, %d", phase, w, n, code)
			}
		}
	}
}

// 9.5: the order of things, with few ranks and many, of few senders and of all.
func TestOrderOfThings(t *testing.T) {
	c := chance(95)
	for _, workers := range []int{1, 2, 5, 64} {
		for _, ranks := range []int{1, 2, 10, 1 << 30} {
			p, s := made(t, workers, 1024, byRank), newSlow(workers, 1024)
			for i := range 60 * min(workers, 8) {
				from, v := c.below(workers), thing{c.below(ranks) - ranks/2, i}
				p.Send(from, workers-1, v)
				s.Send(from, workers-1, v)
			}
			for w := range workers {
				if p.Flip(w) != api.OK || s.Flip(w) != api.OK {
					t.Fatalf("%d workers: worker %d does not flip", workers, w)
				}
			}
			a, code := p.Drain(workers - 1)
			if b, _ := s.Drain(workers - 1); !slices.Equal(a, b) || code != api.OK {
				t.Errorf("%d workers, %d ranks: Drain is %v, %d, not %v", workers, ranks, a, code, b)
			}
		}
	}
}

// 9.5: compare's answers count by their signs, however large.
func TestSigns(t *testing.T) {
	p := made(t, 1, 100, func(a, b int) int {
		switch {
		case a < b:
			return math.MinInt
		case a > b:
			return math.MaxInt
		}
		return 0
	})
	for i := range 100 {
		p.Send(0, 0, i*37%100)
	}
	p.Flip(0)
	if l, _ := p.Drain(0); len(l) != 100 || !slices.IsSorted(l) {
		t.Errorf("Drain is %v", l)
	}
}

// 0.1, Words: with a compare that is no order each Drain ends, and hands out all that it should.
func TestCompareThatIsNoOrder(t *testing.T) {
	c := chance(1)
	for i, compare := range []func(a, b int) int{
		func(a, b int) int { return 1 },
		func(a, b int) int { return -1 },
		func(a, b int) int { return (a*31+b*17)%5 - 2 },
		func(a, b int) int { return (a-b+300)%3 - 1 },
		func(a, b int) int { return int(c.next() % 3) },
		func(a, b int) int { return a & 1 },
	} {
		for _, n := range []int{1, 2, 3, 10, 13, 100, 1000} {
			p := made(t, 2, 1024, compare)
			for v := range n {
				p.Send(v&1, 0, v)
				p.Send(v&1, 1, -v)
			}
			p.Flip(0)
			p.Flip(1)
			l, code := p.Drain(0)
			slices.Sort(l)
			if len(l) != n || code != api.OK || l[0] != 0 || l[n-1] != n-1 || len(slices.Compact(l)) != n {
				t.Errorf("compare %d, %d things: Drain has %d, %d", i, n, len(l), code)
			}
		}
	}
}

// 9.6: all that was sent in the present phase is taken back, to whomever, and nothing else; who had failed has not any more.
func TestDrop(t *testing.T) {
	p := made(t, 3, 2, byNumber)
	for _, nobody := range []int{math.MinInt, -1, 3, math.MaxInt} {
		if n, code := p.Drop(nobody); n != 0 || code != api.ErrWho {
			t.Errorf("Drop(%d) is %d, %d", nobody, n, code)
		}
	}
	p.Send(0, 1, 1)
	p.Send(1, 1, 2)
	for w := range 3 {
		p.Flip(w)
	}
	for _, to := range []int{0, 0, 1, 1, 2} {
		p.Send(0, to, 7)
	}
	p.Send(0, 0, 7)
	p.Send(1, 0, 8)
	p.Send(1, 5, 8)
	if n, code := p.Drop(0); n != 5 || code != api.OK {
		t.Errorf("Drop(0) is %d, %d", n, code)
	}
	if p.Err(0) != api.OK || p.Err(1) != api.ErrWho {
		t.Errorf("Err is %d, %d", p.Err(0), p.Err(1))
	}
	for w, want := range []int{1, 2, 0} {
		if n, _ := p.Waiting(w); n != want {
			t.Errorf("Waiting(%d) is %d, not %d", w, n, want)
		}
	}
	if n, code := p.Drop(0); n != 0 || code != api.OK {
		t.Errorf("a second Drop(0) is %d, %d", n, code)
	}
	for range 2 {
		if code := p.Send(0, 0, 9); code != api.OK {
			t.Errorf("Send behind Drop is %d", code)
		}
	}
	if n, code := p.Drop(1); n != 1 || code != api.OK || p.Err(1) != api.OK {
		t.Errorf("Drop(1) is %d, %d", n, code)
	}
	if l, code := p.Drain(1); !slices.Equal(l, []int{1, 2}) || code != api.OK {
		t.Errorf("what was sent in the phase ahead is %v, %d", l, code)
	}
}

// 9.7: Waiting counts both halves, of all senders, and of its receiver alone.
func TestWaiting(t *testing.T) {
	p := made(t, 3, 4, byNumber)
	is := func(want ...int) {
		t.Helper()
		for w, want := range want {
			if n, code := p.Waiting(w); n != want || code != api.OK {
				t.Errorf("Waiting(%d) is %d, %d, not %d", w, n, code, want)
			}
		}
	}
	for _, nobody := range []int{math.MinInt, -1, 3, math.MaxInt} {
		if n, code := p.Waiting(nobody); n != 0 || code != api.ErrWho {
			t.Errorf("Waiting(%d) is %d, %d", nobody, n, code)
		}
	}
	p.Send(0, 0, 1)
	p.Send(1, 0, 1)
	p.Send(2, 1, 1)
	is(2, 1, 0)
	for w := range 3 {
		p.Flip(w)
	}
	p.Send(2, 0, 2)
	p.Send(0, 0, 2)
	is(4, 1, 0)
	p.Drain(0)
	is(2, 1, 0)
	p.Drop(0)
	is(1, 1, 0)
}

// 9.8: Err of those who are no workers, of one who has failed, of the others.
func TestErr(t *testing.T) {
	p := made(t, 2, 1, byNumber)
	for _, nobody := range []int{math.MinInt, -1, 2, math.MaxInt} {
		if code := p.Err(nobody); code != api.ErrWho {
			t.Errorf("Err(%d) is %d", nobody, code)
		}
	}
	p.Send(1, 0, 1)
	p.Send(1, 0, 1)
	if p.Err(0) != api.OK || p.Err(1) != api.ErrBox {
		t.Errorf("Err is %d, %d", p.Err(0), p.Err(1))
	}
	p.Drain(1)
	p.Flip(0)
	p.Flip(1)
	if p.Err(1) != api.ErrBox {
		t.Errorf("Err behind other calls is %d", p.Err(1))
	}
	p.Drop(1)
	if p.Err(1) != api.OK {
		t.Errorf("Err behind Drop is %d", p.Err(1))
	}
}

// 9.5, 9.9: all that 64 workers can lay for one, in order.
func TestLargestDrain(t *testing.T) {
	p := made(t, 64, 1024, byRank)
	for i := range 1024 {
		for from := range 64 {
			if code := p.Send(from, 63, thing{i * 7 % 5, from*1024 + i}); code != api.OK {
				t.Fatal(code)
			}
		}
	}
	for w := range 64 {
		p.Flip(w)
	}
	l, code := p.Drain(63)
	if len(l) != 64*1024 || code != api.OK {
		t.Fatalf("Drain has %d things, %d", len(l), code)
	}
	for i := 1; i < len(l); i++ {
		if a, b := l[i-1], l[i]; a.rank > b.rank || a.rank == b.rank && a.name >= b.name {
			t.Fatalf("%v ahead of %v", a, b)
		}
	}
}

// The chapter's examples: sNNN is Send, f Flip, p Phase, d Drain, b Drop, w Waiting, e Err; x is -1.
func TestExamples(t *testing.T) {
	for i, x := range []struct {
		workers, room int
		compare       func(a, b int) int
		script        string
	}{
		{2, 2, byNumber, "s017=0 s015=0 s019=90 e0=90 s001=90 f0=90 s116=0 w1=3,0 " +
			"b0=2,0 e0=0 w1=1,0 s018=0 f0=0 p0=1 d0=[],92 d1=[],0 f0=92 " +
			"s014=0 f1=0 d1=[6,8],0 w1=1,0 d1=[],0 d0=[],0 " +
			"f1=0 p1=2 f0=0 d1=[4],0 f0=0 p0=3 p1=2 f0=92"},
		{2, 1, byNumber, "s013=0 f0=0 f1=0 f0=92 f1=92 d0=[],0 f0=92 b0=0,0 d1=[3],0 f1=0 f0=0"},
		{3, 4, nil, "s201=0 s102=0 s203=0 s104=0 f0=0 f1=0 f2=0 d0=[2,4,1,3],0"},
		{2, 2, byNumber, "s051=91 e0=91 s011=91 s501=91 e5=91 e1=0 b5=0,91"},
		{2, 2, byNumber, "px=-1 w2=0,91 f2=91"},
		{1, 2, byNumber, "s009=0 s008=0 d0=[],0 f0=0 s007=0 d0=[8,9],0 w0=1,0"},
	} {
		p := made(t, x.workers, x.room, x.compare)
		for _, step := range strings.Fields(x.script) {
			name, want, _ := strings.Cut(step, "=")
			if got := played(p, name); got != want {
				t.Errorf("example %d: %s is %s, not %s", i, name, got, want)
			}
		}
	}
}

// played makes a call that is told in letters, and tells its answer.
func played(p *mailbox.Post[int], name string) string {
	n := func(at int) int {
		if name[at] == 'x' {
			return -1
		}
		return int(name[at] - '0')
	}
	switch name[0] {
	case 's':
		return fmt.Sprint(int(p.Send(n(1), n(2), n(3))))
	case 'f':
		return fmt.Sprint(int(p.Flip(n(1))))
	case 'p':
		return fmt.Sprint(p.Phase(n(1)))
	case 'e':
		return fmt.Sprint(int(p.Err(n(1))))
	case 'd':
		l, code := p.Drain(n(1))
		return fmt.Sprint(strings.ReplaceAll(fmt.Sprint(l), " ", ","), ",", int(code))
	case 'b':
		k, code := p.Drop(n(1))
		return fmt.Sprint(k, ",", int(code))
	}
	k, code := p.Waiting(n(1))
	return fmt.Sprint(k, ",", int(code))
}
