package splay_test

import (
	"fmt"
	"slices"
	"testing"

	"horizon/api"
)

// 8.2 to 8.8, 8.10 to 8.12: every tree of up to six events that calls can make of seven keys, and every call on it: what it answers, what it makes of the tree, what it costs.
func TestAllSmallTrees(t *testing.T) {
	const room, keys = 6, 7
	var calls []call
	for time := range uint64(2*keys + 1) {
		if time%2 == 1 {
			calls = append(calls, call{'I', api.Event{Key: key(time), Data: int64(time)}})
		}
		calls = append(calls, call{'F', at(time)}, call{'R', at(time)}, call{'S', at(time)})
	}
	calls = append(calls, call{'M', at(0)}, call{'P', at(0)})
	type path struct {
		tree  *tree
		calls []call
	}
	known := map[string]bool{"": true}
	for open := []path{{}}; len(open) > 0; open = open[1:] {
		from := open[0]
		for _, x := range calls {
			q, s := made(t, room), &slow{room: room, tree: from.tree}
			for _, y := range from.calls {
				do(q, y)
			}
			before := q.Work()
			a, b := do(q, x), do(s, x)
			if !sameAnswer(a, b) {
				t.Fatalf("%v, then %v: %v, not %v", from.calls, x, a, b)
			}
			s.work += before
			alike(t, x.String(), q, s)
			name := drawn(s.tree)
			if !known[name] {
				known[name] = true
				open = append(open, path{s.tree, append(slices.Clone(from.calls), x)})
			}
		}
	}
	if len(known) < 2000 {
		t.Errorf("only %d trees are made", len(known))
	}
}

// drawn is a tree in letters.
func drawn(T *tree) string {
	if T == nil {
		return ""
	}
	return fmt.Sprint("(", drawn(T.a), T.x.Key.Time, drawn(T.b), ")")
}

// 8.2 to 8.8, 8.10 to 8.14: thrown calls on queues of all rooms up to 64, held against the chapter's words call by call.
func TestThrown(t *testing.T) {
	c := chance(1)
	told := map[string]int{}
	for round := range 400 {
		room := 1 + c.below(1+round%64)
		q, s := made(t, room), &slow{room: room}
		few, puts := 1+c.below(40), 2+c.below(7)
		for range 150 {
			x := c.call(few, puts)
			a, b := do(q, x), do(s, x)
			if !sameAnswer(a, b) {
				t.Fatalf("room %d: %v is %v, not %v, with\n%s", room, x, a, b, look(q))
			}
			alike(t, x.String(), q, s)
			if q.Work() > s.shares {
				t.Fatalf("Work %d is above the shares, %d", q.Work(), s.shares)
			}
			told[fmt.Sprintf("%c%d", x.name, a.code)]++
			if len(a.list) > 0 && q.Size() > 0 {
				told["S in the midst"]++
			}
		}
	}
	for _, want := range []string{"I0", "I80", "I81", "M0", "M82", "P0", "P82", "F0", "F83", "R0", "R83", "S0", "S in the midst"} {
		if told[want] < 100 {
			t.Errorf("%s only %d times", want, told[want])
		}
	}
}

// 8.2 to 8.13: long rows of calls on large queues, the tree looked at now and then.
func TestThrownLarge(t *testing.T) {
	c := chance(2)
	for _, room := range []int{500, 3000} {
		q, s := made(t, room), &slow{room: room}
		for i := range 4 * room {
			x := c.call(10*room, 6)
			if i < room {
				x = call{'I', api.Event{Key: key(uint64(i)), Data: int64(i)}}
			}
			if x.name == 'S' {
				x.event.Key.Time = uint64(10*room - c.below(room))
			}
			if a, b := do(q, x), do(s, x); !sameAnswer(a, b) {
				t.Fatalf("room %d: %v is %v, not %v", room, x, a, b)
			}
			if i%100 == 0 {
				alike(t, x.String(), q, s)
			}
		}
		alike(t, "at the end", q, s)
	}
}
