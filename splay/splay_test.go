package splay_test

import (
	"math"
	"slices"
	"testing"

	"horizon/api"
	"horizon/splay"
)

// 8.1: a room from 1 to MaxArena, and nothing else.
func TestNew(t *testing.T) {
	for _, room := range []int{0, -1, -2, math.MinInt, math.MinInt + 1, api.MaxArena + 1, api.MaxArena + 2, 1 << 32, 1<<32 + 1, math.MaxInt} {
		if q, code := splay.New(room); q != nil || code != api.ErrRoom {
			t.Errorf("New(%d) is %v, %d", room, q, code)
		}
	}
	for _, room := range []int{1, 2, 3, 100, api.MaxArena - 1, api.MaxArena} {
		q := made(t, room)
		if q.Size() != 0 || q.Room() != room || q.Work() != 0 || len(q.List()) != 0 || len(q.Depths()) != 0 {
			t.Errorf("New(%d) has\n%s", room, look(q))
		}
		for e := range q.Each() {
			t.Errorf("New(%d) has %v", room, e)
		}
	}
}

// 8.2 to 8.7, 8.10, 8.11: the chapter's examples 2 to 8, one behind the other.
func TestExamples(t *testing.T) {
	q := made(t, 100, 1, 2, 3, 4, 5)
	shape(t, "example 2", q, 0, 4, 3, 2, 1, 0)
	for _, x := range []struct {
		call   call
		answer answer
		work   int
		depths []int
	}{
		{call{'M', at(0)}, answer{event: at(1)}, 4, []int{0, 2, 3, 1, 2}},
		{call{'P', at(0)}, answer{event: at(1)}, 4, []int{1, 2, 0, 1}},
		{call{'F', at(3)}, answer{event: at(3)}, 6, []int{1, 0, 1, 2}},
		{call{'F', at(6)}, answer{code: api.ErrNone}, 8, []int{2, 1, 0, 1}},
		{call{'R', at(4)}, answer{event: at(4)}, 8, []int{2, 1, 0}},
		{call{'S', at(3)}, answer{list: []api.Event{at(3), at(5)}}, 10, []int{0}},
		{call{'S', at(9)}, answer{}, 10, []int{0}},
	} {
		if a := do(q, x.call); !sameAnswer(a, x.answer) {
			t.Errorf("%v is %v, not %v", x.call, a, x.answer)
		}
		shape(t, x.call.String(), q, x.work, x.depths...)
	}
}

// 8.2, 8.4, 8.14: the chapter's example 9; a full queue does not look at the key.
func TestRoomForOne(t *testing.T) {
	q := made(t, 1, 7)
	if code := q.Insert(at(7)); code != api.ErrFull {
		t.Errorf("a twin in a full queue: %d", code)
	}
	if e, code := q.Pop(); e != at(7) || code != api.OK {
		t.Errorf("Pop is %v, %d", e, code)
	}
	if e, code := q.Pop(); e != at(0) || code != api.ErrEmpty {
		t.Errorf("Pop of nothing is %v, %d", e, code)
	}
	if code := q.Insert(at(8)); code != api.OK || q.Room() != 0 || q.Size() != 1 {
		t.Errorf("Insert behind Pop: %d", code)
	}
}

// 8.2: a full queue stays as it is, whatever is to be put in, and it costs nothing.
func TestFull(t *testing.T) {
	q := made(t, 5, 5, 1, 4, 2, 3)
	before := look(q)
	for time := range uint64(7) {
		if code := q.Insert(api.Event{Key: key(time), Data: 1}); code != api.ErrFull {
			t.Errorf("Insert of %d into a full queue: %d", time, code)
		}
		if after := look(q); after != before {
			t.Fatalf("Insert of %d into a full queue makes\n%s\nof\n%s", time, after, before)
		}
	}
}

// 8.2, 8.12: a twin is not put in; who was there comes to the root, and all that it had stays.
func TestTwin(t *testing.T) {
	old := api.Event{Key: api.Key{Time: 3, Src: 1, Seq: 2}, Dst: 4, Kind: 5, Data: 6}
	q := made(t, 9, 1, 5)
	q.Insert(old)
	q.Insert(at(2))
	q.Insert(at(4))
	for _, twin := range []api.Event{old, {Key: old.Key}, {Key: old.Key, Dst: -4, Kind: 7, Data: 1}} {
		q.Min()
		if code := q.Insert(twin); code != api.ErrTwin || q.Size() != 5 {
			t.Errorf("Insert of the twin %v: %d", twin, code)
		}
		if d := q.Depths(); d[2] != 0 || q.List()[2] != old {
			t.Errorf("behind the twin %v:\n%s", twin, look(q))
		}
	}
	if e, code := q.Find(old.Key); e != old || code != api.OK {
		t.Errorf("Find is %v, %d", e, code)
	}
}

// 8.3 to 8.7: a queue with nothing in it, new or emptied in either way, refuses and costs nothing.
func TestEmpty(t *testing.T) {
	emptied := made(t, 3, 1, 2, 3)
	for range 3 {
		emptied.Pop()
	}
	split := made(t, 3, 1, 2, 3)
	split.Split(0)
	removed := made(t, 3, 2)
	removed.Remove(key(2))
	for _, q := range []*splay.Queue{made(t, 3), emptied, split, removed} {
		before := look(q)
		for name, code := range map[byte]api.Errno{'M': api.ErrEmpty, 'P': api.ErrEmpty, 'F': api.ErrNone, 'R': api.ErrNone, 'S': api.OK} {
			if a := do(q, call{name, at(0)}); !sameAnswer(a, answer{code: code}) {
				t.Errorf("%c of nothing is %v", name, a)
			}
			if after := look(q); after != before {
				t.Errorf("%c of nothing makes\n%s\nof\n%s", name, after, before)
			}
		}
	}
}

// 8.8, 8.12: keys go by time, then sender (with sign), then number (without sign); the rest of an event means nothing.
func TestOrder(t *testing.T) {
	keys := []api.Key{
		{Time: 0, Src: math.MaxInt, Seq: most},
		{Time: 1, Src: math.MinInt, Seq: most},
		{Time: 1, Src: -1, Seq: 0},
		{Time: 1, Src: -1, Seq: 1<<63 - 1},
		{Time: 1, Src: -1, Seq: 1 << 63},
		{Time: 1, Src: -1, Seq: most},
		{Time: 1, Src: 0, Seq: 0},
		{Time: 1, Src: math.MaxInt, Seq: 0},
		{Time: 1<<63 - 1, Src: 0, Seq: 0},
		{Time: 1 << 63, Src: -5, Seq: 0},
		{Time: most, Src: math.MinInt, Seq: 0},
		{Time: most, Src: math.MaxInt, Seq: most},
	}
	c := chance(8)
	for range 50 {
		q, want := made(t, len(keys)), []api.Event{}
		for i, k := range keys {
			want = append(want, api.Event{Key: k, Dst: -i, Kind: math.MinInt, Data: int64(c.next())})
		}
		for _, i := range thrownOrder(&c, len(keys)) {
			q.Insert(want[i])
		}
		if l := q.List(); !slices.Equal(l, want) {
			t.Fatalf("List is %v, not %v", l, want)
		}
		for _, i := range thrownOrder(&c, len(keys)) {
			if e, code := q.Find(keys[i]); e != want[i] || code != api.OK {
				t.Fatalf("Find of %v is %v, %d", keys[i], e, code)
			}
		}
		for _, e := range want {
			if got, code := q.Pop(); got != e || code != api.OK {
				t.Fatalf("Pop is %v, %d, not %v", got, code, e)
			}
		}
	}
}

func thrownOrder(c *chance, n int) []int {
	l := make([]int, n)
	for i := range l {
		j := c.below(i + 1)
		l[i], l[j] = l[j], i
	}
	return l
}

// 8.5, 8.6: a key that differs in one number from one that is there is not there.
func TestNearKeys(t *testing.T) {
	k := api.Key{Time: 5, Src: 5, Seq: 5}
	nears := []api.Key{{}}
	for _, d := range []int{-1, 1} {
		nears = append(nears, api.Key{Time: uint64(5 + d), Src: 5, Seq: 5}, api.Key{Time: 5, Src: 5 * d, Seq: 5}, api.Key{Time: 5, Src: 5 + d, Seq: 5}, api.Key{Time: 5, Src: 5, Seq: uint64(5 + d)})
	}
	for _, near := range nears {
		if near == k {
			continue
		}
		q := made(t, 3)
		q.Insert(api.Event{Key: k, Data: 1})
		if e, code := q.Find(near); e != at(0) || code != api.ErrNone {
			t.Errorf("Find of %v is %v, %d", near, e, code)
		}
		if e, code := q.Remove(near); e != at(0) || code != api.ErrNone || q.Size() != 1 {
			t.Errorf("Remove of %v is %v, %d", near, e, code)
		}
		if code := q.Insert(api.Event{Key: near}); code != api.OK {
			t.Errorf("Insert of %v: %d", near, code)
		}
	}
}

// 8.7: the cut lies ahead of all keys of its time, whatever their senders and numbers, and behind all of the time before it.
func TestSplitTimes(t *testing.T) {
	all := []api.Event{}
	for _, time := range []uint64{0, 1, 6, 7, 8, 1 << 63, most - 1, most} {
		for _, src := range []int{math.MinInt, 0, math.MaxInt} {
			all = append(all, api.Event{Key: api.Key{Time: time, Src: src}}, api.Event{Key: api.Key{Time: time, Src: src, Seq: most}})
		}
	}
	c := chance(7)
	for _, cut := range []uint64{0, 1, 2, 6, 7, 8, 9, 1<<63 - 1, 1 << 63, 1<<63 + 1, most - 1, most} {
		q := made(t, len(all))
		for _, i := range thrownOrder(&c, len(all)) {
			q.Insert(all[i])
		}
		from := slices.IndexFunc(all, func(e api.Event) bool { return e.Key.Time >= cut })
		if l := q.Split(cut); !slices.Equal(l, all[from:]) {
			t.Errorf("Split(%d) is %v, not %v", cut, l, all[from:])
		}
		if l := q.List(); !slices.Equal(l, all[:from]) || q.Size() != from || q.Room() != len(all)-from {
			t.Errorf("Split(%d) leaves %v, not %v", cut, l, all[:from])
		}
		if l := q.Split(cut); len(l) != 0 {
			t.Errorf("Split(%d) once more is %v", cut, l)
		}
	}
}

// 8.12: who was found, found to be a twin, put in last or told by Min lies at depth 0.
func TestAtTheRoot(t *testing.T) {
	c, roots := chance(12), 0
	q := made(t, 40)
	for range 4000 {
		x := c.call(30, 4)
		a := do(q, x)
		root := x.event.Key
		switch {
		case x.name == 'I' && (a.code == api.OK || a.code == api.ErrTwin), x.name == 'F' && a.code == api.OK:
		case x.name == 'M' && a.code == api.OK:
			root = a.event.Key
		default:
			continue
		}
		roots++
		if i := slices.Index(q.Depths(), 0); q.List()[i].Key != root {
			t.Fatalf("behind %v, %v the root is not there:\n%s", x, a, look(q))
		}
	}
	if roots < 1000 {
		t.Errorf("only %d calls bring something to the root", roots)
	}
}
