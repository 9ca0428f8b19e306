package kernel_test

import (
	"testing"

	"horizon/api"
	"horizon/kernel"
)

// room holds Room against a window, and a whole run against it and against what 14.9 promises of it.
func room(t *testing.T, what any, p api.Plan, l api.Layout, window int) {
	t.Helper()
	if n, code := kernel.Room(p, l); n != window || code != api.OK {
		t.Errorf("%v: Room is %d, %d, not %d", what, n, code, window)
	}
	r, err := kernel.Fair(p, l, kernel.Enough(p, l))
	wantAnswer(t, what, r, err, promised(p, window))
}

// 14.8: DOC.md's example 6: no room in a box, in an undo log, in a queue.
func TestRoomExample(t *testing.T) {
	p := scenario(t, ring)
	room(t, "a box", p, tight(99, 1, 99), 1)
	room(t, "an undo log", p, tight(99, 99, 4), 5)
	room(t, "a queue", p, tight(6, 99, 99), 4)
	for window, events := range map[int]int{1: 0, 5: 11, 4: 6} {
		if n := len(promised(p, window).Trace); n != events {
			t.Errorf("%d events are ahead of window %d, not %d", n, window, events)
		}
	}
	p.Budget = 60
	room(t, "room for all", p, tight(api.MaxArena, api.MaxBox, api.MaxUndo), 0)
}

// hands is a model in which part 0 hands a number of events on to part 1, which another worker owns.
const hands = `look 5 end 100 kind a, b
type T { var n on a(x) { while n < x { n = n + 1 send b(n) to 1 after 5 } } on b(x) { n = n + x } }
place t[2] : T
start b(0) to t[1] at 40
`

// 14.8: what shows in the Drain of a window counts as the window ahead of it; a queue that is full to its last place has room.
func TestRoomDrain(t *testing.T) {
	p := scenario(t, hands+"start a(3) to t[0] at 0")
	l := api.Layout{Workers: 2, Owner: []int{0, 1}, Arena: 4, Box: 3, Undo: 3}
	room(t, "just enough", p, l, 0)
	l.Arena = 3
	room(t, "no room in the drain", p, l, 1)
	l.Arena, l.Box = 4, 2
	room(t, "no room in the box", p, l, 1)
	l.Box, l.Undo = 3, 2
	room(t, "no room in the undo log", p, l, 2)
	// A window goes ahead in which nothing is handed on.
	p = scenario(t, hands+"start b(0) to t[0] at 0 start a(4) to t[0] at 7")
	l.Arena, l.Box, l.Undo = 4, 4, 3
	room(t, "no room in the drain", p, l, 2)
	l.Arena = 5
	room(t, "no room in the undo log", p, l, 3)
}

// 14.8: events from End on take room like all others; those that count beyond the budget, too.
func TestRoomTaken(t *testing.T) {
	p := scenario(t, hands+"start a(3) to t[0] at 0")
	l := api.Layout{Workers: 2, Owner: []int{0, 1}, Arena: 3, Box: 3, Undo: 3}
	p.End = 1
	room(t, "beyond the end", p, l, 1)
	p.End = 0
	room(t, "nothing to execute", p, l, 0)
	p.End, p.Budget = 100, 0
	room(t, "nothing to spend", p, l, 0)
	p.Budget = 1
	room(t, "the budget is used up in the window", p, l, 1)
	l.Arena = 4
	room(t, "room for all", p, l, 0)
}

// 14.8, 14.9: no room in the window in which the run would fail, or be cut, is no room; in a later one it is not.
func TestRoomAndEnds(t *testing.T) {
	text := `look 5 end 100 kind a, b
type T { var n on a(x) { n = n + 1 } on b(x) { fail x } }
place t[2] : T
start a(0) to t[1] at 2 start a(0) to t[1] at 3
`
	l := api.Layout{Workers: 2, Owner: []int{0, 1}, Arena: 9, Box: 9, Undo: 1}
	room(t, "it fails in this window", scenario(t, text+"start b(0) to t[0] at 0"), l, 1)
	late := scenario(t, `look 1 end 100 kind a, b
type T { var n on a(x) { n = n + 1 } on b(x) { fail x } }
place t[2] : T
start b(0) to t[0] at 0 start a(0) to t[1] at 2 start a(0) to t[1] at 2
`)
	room(t, "it fails ahead of this window", late, l, 0)
	late.Starts[0].Time = 9
	room(t, "it fails behind this window", late, l, 1)
	cut := scenario(t, text+"start a(0) to t[0] at 0")
	for budget, window := range map[int]int{0: 0, 1: 0, 2: 1, 3: 1, 9: 1} {
		// With a budget of 1 worker 1 executes one event, and asks no more: there is room for it.
		cut.Budget = budget
		room(t, budget, cut, l, window)
	}
}

// 14.8: thrown plans and layouts, against the words read without steps.
func TestRoomThrown(t *testing.T) {
	m := maker{chance: 148}
	for range 1500 {
		p := m.plan(t)
		l := m.layout(p)
		want, why := lackOf(p, l)
		if n, code := kernel.Room(p, l); n != want || code != api.OK {
			t.Fatalf("Room is %d, %d, not %d (%q)", n, code, want, why)
		}
	}
}
