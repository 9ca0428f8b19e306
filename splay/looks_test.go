package splay_test

import (
	"math"
	"runtime"
	"slices"
	"testing"

	"horizon/api"
	"horizon/splay"
)

// 8.8: Size, Room, List, Each, Depths and Work change nothing: a queue that is looked at and one that is not do the same.
func TestLooksChangeNothing(t *testing.T) {
	c := chance(88)
	seen, unseen := made(t, 50), made(t, 50)
	for range 3000 {
		x := c.call(40, 5)
		do(unseen, x)
		do(seen, x)
		before := look(seen)
		for e := range seen.Each() {
			if e.Key.Time > 20 {
				break
			}
		}
		if after := look(seen); after != before {
			t.Fatalf("looking makes\n%s\nof\n%s", after, before)
		}
	}
	if a, b := look(seen), look(unseen); a != b {
		t.Errorf("looked at, the queue is\n%s\nnot\n%s", a, b)
	}
}

// spoil writes over a list and over the room behind its end.
func spoil[T any](l []T, with T) {
	l = l[:cap(l)]
	for i := range l {
		l[i] = with
	}
}

// 0.4, 8.7, 8.8, 8.10: what is handed out shares memory with nothing: not with the queue, not with another answer, nor the room behind it.
func TestAnswersAreApart(t *testing.T) {
	c := chance(4)
	bad := api.Event{Key: api.Key{Time: 77, Src: 77}, Data: 77}
	for round := range 200 {
		q, s := made(t, 60), &slow{room: 60}
		for range c.below(70) {
			x := c.call(30, 8)
			do(q, x)
			do(s, x)
		}
		first, second, deep := q.List(), q.List(), q.Depths()
		cut := uint64(c.below(35))
		gone, want := q.Split(cut), s.Split(cut)
		spoil(first, bad)
		spoil(deep, math.MinInt)
		alike(t, "behind a spoiled List", q, s)
		if !slices.Equal(gone, want) || slices.Contains(second, bad) {
			t.Fatalf("round %d: one answer writes into another", round)
		}
		third := q.List()
		spoil(gone, bad)
		spoil(second, bad)
		alike(t, "behind a spoiled Split", q, s)
		kept := slices.Clone(third)
		for range 40 {
			x := c.call(30, 8)
			do(q, x)
			do(s, x)
		}
		alike(t, "further on", q, s)
		if !slices.Equal(third, kept) {
			t.Fatalf("round %d: the queue writes into an answer", round)
		}
	}
}

// 8.8: who appends to an answer of List or of Split writes into nothing else.
func TestAppendToAnswers(t *testing.T) {
	for n := range 40 {
		q := made(t, 100)
		for i := range n {
			q.Insert(at(uint64(i)))
		}
		a, b := q.List(), q.List()
		a, b = append(a, at(1000)), append(b, at(2000))
		if a[n] != at(1000) || b[n] != at(2000) {
			t.Errorf("%d events: List's answers share the room behind them", n)
		}
		gone := q.Split(uint64(n / 2))
		want := slices.Clone(gone)
		more := append(gone, at(3000))
		q.Insert(at(4000))
		if !slices.Equal(more[:len(want)], want) || more[len(want)] != at(3000) {
			t.Errorf("%d events: Split's answer is %v", n, more)
		}
		for _, l := range [][]api.Event{q.List(), gone} {
			if cap(l) != len(l) {
				t.Errorf("%d events: an answer of %d has room for %d", n, len(l), cap(l))
			}
		}
	}
}

// 0.3: two queues know nothing of one another.
func TestTwoQueues(t *testing.T) {
	c := chance(3)
	var queues [4]*splay.Queue
	var slows [4]*slow
	for i := range queues {
		queues[i], slows[i] = made(t, 10*(i+1)), &slow{room: 10 * (i + 1)}
	}
	for range 4000 {
		i, x := c.below(4), c.call(30, 6)
		if a, b := do(queues[i], x), do(slows[i], x); !sameAnswer(a, b) {
			t.Fatalf("queue %d: %v is %v, not %v", i, x, a, b)
		}
		for j := range queues {
			alike(t, x.String(), queues[j], slows[j])
		}
	}
}

// 8.14: a queue that was full and gave one out takes one in, in whichever way it was given out, again and again.
func TestRoomComesBack(t *testing.T) {
	c := chance(14)
	for _, room := range []int{1, 2, 3, 7, 64} {
		q := made(t, room)
		next := uint64(0)
		fill := func() {
			for q.Room() > 0 {
				if code := q.Insert(at(next)); code != api.OK {
					t.Fatalf("room %d: Insert of %d: %d", room, next, code)
				}
				next++
			}
			if code := q.Insert(at(next)); code != api.ErrFull || q.Size() != room {
				t.Fatalf("room %d: one more: %d", room, code)
			}
		}
		for range 500 {
			fill()
			l := q.List()
			gone := 1
			switch c.below(4) {
			case 0:
				q.Pop()
			case 1:
				q.Remove(pick(&c, l).Key)
			case 2:
				gone = len(q.Split(pick(&c, l).Key.Time))
			default:
				q.Find(pick(&c, l).Key)
				q.Min()
				gone = 0
			}
			if q.Room() != gone || q.Size() != room-gone {
				t.Fatalf("room %d: %d went out, there is room for %d", room, gone, q.Room())
			}
		}
	}
}

// 8.14: the places of events that were taken out are used again: a queue through which many go grows no more than one through which few go.
func TestPlacesComeBack(t *testing.T) {
	held := func() int {
		var m runtime.MemStats
		runtime.GC()
		runtime.ReadMemStats(&m)
		return int(m.HeapAlloc)
	}
	for name, out := range map[string]func(q *splay.Queue, time uint64){
		"Pop":    func(q *splay.Queue, _ uint64) { q.Pop() },
		"Remove": func(q *splay.Queue, time uint64) { q.Remove(key(time)) },
		"Split":  func(q *splay.Queue, _ uint64) { q.Split(0) },
	} {
		q := made(t, 4)
		before := held()
		for i := range uint64(100000) {
			for j := range uint64(4) {
				q.Insert(at(4*i + j))
			}
			for j := range uint64(4) {
				out(q, 4*i+j)
			}
		}
		if grown := held() - before; grown > 4<<20 {
			t.Errorf("%s: the queue has grown by %d bytes", name, grown)
		}
		if q.Size() != 0 {
			t.Errorf("%s: %d are left", name, q.Size())
		}
	}
}
