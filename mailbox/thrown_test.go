package mailbox_test

import (
	"slices"
	"testing"

	"horizon/api"
	"horizon/mailbox"
)

// thrown is any call, mostly one that brings a post on: sends of ten times something is sent.
func (c *chance) thrown(workers, sends, name int) call {
	w := c.worker(workers)
	if c.below(10) < sends {
		return call{'S', w, c.worker(workers), thing{c.below(5), name}}
	}
	return call{name: pick(c, []byte("FFFFDDDDB")), w: w}
}

// 9.2 to 9.8: thrown calls on posts of many sizes answer as the chapter's words read slowly.
func TestThrownCalls(t *testing.T) {
	c := chance(9)
	codes := map[api.Errno]int{}
	handed, dropped := 0, 0
	for range 60 {
		workers := pick(&c, []int{1, 2, 3, 4, 7, 64})
		room := pick(&c, []int{1, 1, 2, 3, 10})
		sends := 2 + c.below(6)
		p, s := made(t, workers, room, byRank), newSlow(workers, room)
		for i := range 1500 {
			a := alike(t, p, s, c.thrown(workers, sends, i))
			codes[a.code]++
			handed += len(a.list)
			dropped += a.count
		}
	}
	for code, n := range map[api.Errno]int{api.OK: 10000, api.ErrWho: 1000, api.ErrBox: 1000, api.ErrPhase: 1000} {
		if codes[code] < n {
			t.Errorf("only %d calls were answered by %d", codes[code], code)
		}
	}
	if handed < 1000 || dropped < 1000 {
		t.Errorf("only %d things were handed out, %d taken back", handed, dropped)
	}
}

// 9.10: each thing lies in the post, or was taken back once, or was handed out once, to its receiver, one phase on.
func TestNothingLostNothingTwice(t *testing.T) {
	type parcel struct{ from, to, phase, name int }
	c := chance(910)
	for range 40 {
		workers, room := 1+c.below(5), 1+c.below(4)
		p := made(t, workers, room, func(a, b parcel) int { return a.name%3 - b.name%3 })
		lies := map[parcel]bool{}
		handed := 0
		for i := range 2000 {
			w := c.below(workers)
			switch x := c.thrown(workers, 4, i); x.name {
			case 'S':
				v := parcel{w, x.to, p.Phase(w), i}
				if p.Send(w, x.to, v) == api.OK {
					lies[v] = true
				}
			case 'F':
				p.Flip(w)
			case 'D':
				l, _ := p.Drain(w)
				handed += len(l)
				for _, v := range l {
					if !lies[v] || v.to != w || v.phase != p.Phase(w)-1 {
						t.Fatalf("%v is handed out to %d in phase %d", v, w, p.Phase(w))
					}
					delete(lies, v)
				}
			case 'B':
				n, _ := p.Drop(w)
				for v := range lies {
					if v.from == w && v.phase == p.Phase(w) {
						delete(lies, v)
						n--
					}
				}
				if n != 0 {
					t.Fatalf("Drop(%d) tells %d too many", w, n)
				}
			}
			waiting := 0
			for to := range workers {
				n, _ := p.Waiting(to)
				waiting += n
			}
			if waiting != len(lies) {
				t.Fatalf("%d things lie in the post, not %d", waiting, len(lies))
			}
		}
		if handed == 0 {
			t.Errorf("%d workers, room %d: nothing was handed out", workers, room)
		}
	}
}

// actor is a worker that sends its things of a phase, flips and drains, again as long as it is told ErrPhase, phase by phase.
type actor struct {
	me, sent int
	drains   bool
	lists    [][]thing
}

// plan is what a worker sends in a phase: to whom, and what.
type plan func(w, phase, i int) (to int, v thing)

// act makes the next call of an actor; sends is how many things it sends in a phase.
func (a *actor) act(t *testing.T, p *mailbox.Post[thing], sends int, what plan) {
	t.Helper()
	switch {
	case a.drains:
		l, code := p.Drain(a.me)
		if code == api.OK {
			a.lists = append(a.lists, l)
			a.drains, a.sent = false, 0
		} else if code != api.ErrPhase {
			t.Fatalf("Drain(%d) is %d", a.me, code)
		}
	case a.sent < sends:
		to, v := what(a.me, p.Phase(a.me), a.sent)
		if code := p.Send(a.me, to, v); code != api.OK {
			t.Fatalf("Send(%d, %d) is %d", a.me, to, code)
		}
		a.sent++
	default:
		code := p.Flip(a.me)
		a.drains = code == api.OK
		if code != api.OK && code != api.ErrPhase {
			t.Fatalf("Flip(%d) is %d", a.me, code)
		}
	}
}

// 9.10: whatever the order in which the workers act, each Drain hands out the same list.
func TestAnyOrderOfActing(t *testing.T) {
	const phases = 6
	for _, x := range []struct{ workers, sends int }{{1, 3}, {2, 1}, {2, 5}, {3, 4}, {5, 7}, {16, 9}} {
		what := func(w, phase, i int) (int, thing) {
			c := chance(w*1000 + phase*100 + i)
			return c.below(x.workers), thing{c.below(4), w*1000 + phase*100 + i}
		}
		var first [][][]thing
		for order := range 30 {
			c := chance(order)
			p := made(t, x.workers, x.sends, byRank)
			actors := make([]actor, x.workers)
			for w := range actors {
				actors[w].me = w
			}
			turn := 0
			for done := 0; done < x.workers; turn++ {
				// Some orders are in turn, some thrown, some let one go on as long as it can.
				w := turn % x.workers
				switch order % 4 {
				case 1:
					w = x.workers - 1 - w
				case 2:
					w = c.below(x.workers)
				case 3:
					w = turn / (20 + order) % x.workers
				}
				actors[w].act(t, p, x.sends, what)
				done = 0
				for _, a := range actors {
					if len(a.lists) >= phases {
						done++
					}
				}
				if turn > 1e6 {
					t.Fatalf("%v, order %d: the workers wait for ever", x, order)
				}
			}
			var lists [][][]thing
			for _, a := range actors {
				lists = append(lists, a.lists[:phases])
			}
			if first == nil {
				first = lists
			}
			for w := range lists {
				for phase := range phases {
					if !slices.Equal(lists[w][phase], first[w][phase]) {
						t.Fatalf("%v, order %d: worker %d gets %v in phase %d, not %v", x, order, w, lists[w][phase], phase, first[w][phase])
					}
				}
			}
		}
	}
}
