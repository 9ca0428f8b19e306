package splay_test

import (
	"fmt"
	"math"
	"slices"
	"strings"
	"testing"

	"horizon/api"
	"horizon/splay"
)

const most = math.MaxUint64

// at is the event that is told by its time alone.
func at(time uint64) api.Event { return api.Event{Key: api.Key{Time: time}} }

func key(time uint64) api.Key { return api.Key{Time: time} }

func times(l []api.Event) []uint64 {
	out := []uint64{}
	for _, e := range l {
		out = append(out, e.Key.Time)
	}
	return out
}

// made is a queue with events at these times, put in one behind the other.
func made(t *testing.T, room int, times ...uint64) *splay.Queue {
	t.Helper()
	q, code := splay.New(room)
	if q == nil || code != api.OK {
		t.Fatalf("New(%d) is %v, %d", room, q, code)
	}
	for _, x := range times {
		if code := q.Insert(at(x)); code != api.OK {
			t.Fatalf("Insert of %d: %d", x, code)
		}
	}
	return q
}

// queue is what both the program's queue and the slow one are.
type queue interface {
	Insert(e api.Event) api.Errno
	Min() (api.Event, api.Errno)
	Pop() (api.Event, api.Errno)
	Find(k api.Key) (api.Event, api.Errno)
	Remove(k api.Key) (api.Event, api.Errno)
	Split(t uint64) []api.Event
	Size() int
	Room() int
	List() []api.Event
	Depths() []int
	Work() int
}

// call is a call that may change a queue: its first letter, and what is handed in.
type call struct {
	name  byte
	event api.Event
}

func (c call) String() string { return fmt.Sprintf("%c%v", c.name, c.event) }

type answer struct {
	event api.Event
	code  api.Errno
	list  []api.Event
}

// do makes a call.
func do(q queue, c call) (a answer) {
	switch c.name {
	case 'I':
		a.code = q.Insert(c.event)
	case 'M':
		a.event, a.code = q.Min()
	case 'P':
		a.event, a.code = q.Pop()
	case 'F':
		a.event, a.code = q.Find(c.event.Key)
	case 'R':
		a.event, a.code = q.Remove(c.event.Key)
	case 'S':
		a.list = q.Split(c.event.Key.Time)
	}
	return a
}

func sameAnswer(a, b answer) bool {
	return a.event == b.event && a.code == b.code && slices.Equal(a.list, b.list)
}

// look is all that can be seen of a queue, in letters.
func look(q queue) string {
	var b strings.Builder
	fmt.Fprint(&b, "size ", q.Size(), " room ", q.Room(), " work ", q.Work())
	deep := q.Depths()
	for i, e := range q.List() {
		fmt.Fprint(&b, "\n", e)
		if i < len(deep) {
			fmt.Fprint(&b, " at depth ", deep[i])
		}
	}
	if len(deep) != q.Size() {
		fmt.Fprint(&b, "\ndepths ", deep)
	}
	return b.String()
}

// alike holds a queue against the slow one.
func alike(t *testing.T, what string, q *splay.Queue, s *slow) {
	t.Helper()
	if a, b := look(q), look(s); a != b {
		t.Fatalf("%s: the queue is\n%s\nnot\n%s", what, a, b)
	}
}

// shape holds what can be seen of a queue against the chapter's numbers.
func shape(t *testing.T, what string, q *splay.Queue, work int, depths ...int) {
	t.Helper()
	if d := q.Depths(); !slices.Equal(d, depths) || q.Work() != work {
		t.Errorf("%s: Depths %v, Work %d, not %v, %d", what, d, q.Work(), depths, work)
	}
}

// chance is a row of numbers that look thrown, and are the same at every run.
type chance uint64

func (c *chance) next() uint64 {
	*c = *c*6364136223846793005 + 1442695040888963407
	x := uint64(*c)
	x ^= x >> 32
	return x * 11400714819323198485
}

func (c *chance) below(n int) int { return int(c.next() >> 33 % uint64(n)) }

func pick[T any](c *chance, l []T) T { return l[c.below(len(l))] }

// key is one of few, often with a part like that of others, at times at an edge.
func (c *chance) key(few int) api.Key {
	k := api.Key{Time: uint64(c.below(few)), Src: c.below(3) - 1, Seq: uint64(c.below(2))}
	if c.below(8) == 0 {
		k.Time = pick(c, []uint64{0, 1, 1<<63 - 1, 1 << 63, most - 1, most})
		k.Src = pick(c, []int{0, -1, math.MinInt, math.MaxInt})
		k.Seq = pick(c, []uint64{0, 1, 1 << 63, most})
	}
	return k
}

// event has a key of few, and anything else.
func (c *chance) event(few int) api.Event {
	return api.Event{Key: c.key(few), Dst: int(c.next()), Kind: int(c.next()), Data: int64(c.next())}
}

// call is any call; puts of ten times something is put in.
func (c *chance) call(few, puts int) call {
	if c.below(10) < puts {
		return call{'I', c.event(few)}
	}
	name := pick(c, []byte("MPPFFFRRRRS"))
	if name == 'S' && c.below(3) > 0 {
		// Else a queue would be emptied again and again.
		return call{'S', at(most - uint64(c.below(2)))}
	}
	return call{name, api.Event{Key: c.key(few)}}
}
