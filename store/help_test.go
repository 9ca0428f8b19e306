package store_test

import (
	"fmt"
	"math"
	"slices"
	"strings"
	"testing"

	"horizon/api"
	"horizon/store"
)

const most = math.MaxUint64

func key(time uint64, src int, seq uint64) api.Key { return api.Key{Time: time, Src: src, Seq: seq} }

func state(dice, sent uint64, words ...int64) api.State {
	return api.State{Words: words, Dice: dice, Sent: sent}
}

// two is the states of which the chapter's examples are made.
func two() []api.State { return []api.State{state(5, 0, 1, 2), state(6, 1)} }

// edges are keys, each of them above the one ahead of it.
func edges() []api.Key {
	var l []api.Key
	for _, time := range []uint64{0, 1, 1<<63 - 1, 1 << 63, most} {
		for _, src := range []int{math.MinInt, -1, 0, 1, math.MaxInt} {
			for _, seq := range []uint64{0, 1, 1 << 63, most} {
				l = append(l, key(time, src, seq))
			}
		}
	}
	return l
}

// made is a store that was not refused.
func made(t *testing.T, states []api.State, undo int) *store.Store {
	t.Helper()
	s, code := store.New(states, undo)
	if s == nil || code != api.OK {
		t.Fatalf("New of %d states with undo %d is %v, %d", len(states), undo, s, code)
	}
	return s
}

// keeper is what both the program's store and the slow one are.
type keeper interface {
	State(part int) (api.State, api.Errno)
	Put(part int, k api.Key, v api.State) api.Errno
	Back(k api.Key) int
	Clear() int
	Commit() int
	Log() []api.Key
	Room() int
	States() []api.State
	Settled() []api.State
	Digest() uint32
}

// call is a call that may change a store: its first letter (E for Clear), and what is handed in.
type call struct {
	name  byte
	part  int
	key   api.Key
	state api.State
}

func (c call) String() string { return fmt.Sprintf("%c(%d, %v, %v)", c.name, c.part, c.key, c.state) }

type answer struct {
	code  api.Errno
	count int
}

func do(s keeper, c call) (a answer) {
	switch c.name {
	case 'P':
		a.code = s.Put(c.part, c.key, c.state)
	case 'B':
		a.count = s.Back(c.key)
	case 'E':
		a.count = s.Clear()
	case 'C':
		a.count = s.Commit()
	}
	return a
}

// look is all that can be seen of a store, in letters.
func look(s keeper) string {
	var b strings.Builder
	all := s.States()
	fmt.Fprintln(&b, "states", all)
	fmt.Fprintln(&b, "settled", s.Settled())
	fmt.Fprintln(&b, "log", s.Log(), "room", s.Room(), "digest", s.Digest())
	for part := -1; part <= len(all); part++ {
		v, code := s.State(part)
		fmt.Fprint(&b, part, " ", v, " ", code, ", ")
	}
	return b.String()
}

func sameLook(t *testing.T, a, b keeper, behind any) {
	t.Helper()
	if x, y := look(a), look(b); x != y {
		t.Fatalf("behind %v the store is\n%s\nnot\n%s", behind, x, y)
	}
}

// alike makes a call on two stores, and holds the answers, and all that can be seen behind them, against each other.
func alike(t *testing.T, a, b keeper, c call) answer {
	t.Helper()
	x, y := do(a, c), do(b, c)
	if x != y {
		t.Fatalf("%v is %v, not %v", c, x, y)
	}
	sameLook(t, a, b, c)
	return x
}

func same(a, b api.State) bool {
	return slices.Equal(a.Words, b.Words) && a.Dice == b.Dice && a.Sent == b.Sent
}

func sameAll(a, b []api.State) bool { return slices.EqualFunc(a, b, same) }

// wantPut, wantState, wantLog and wantCount hold one answer against the chapter's.
func wantPut(t *testing.T, s *store.Store, part int, k api.Key, v api.State, want api.Errno) {
	t.Helper()
	if code := s.Put(part, k, v); code != want {
		t.Errorf("Put(%d, %v, %v) is %d, not %d", part, k, v, code, want)
	}
}

func wantState(t *testing.T, s *store.Store, part int, want api.State) {
	t.Helper()
	if v, code := s.State(part); !same(v, want) || code != api.OK {
		t.Errorf("State(%d) is %v, %d, not %v", part, v, code, want)
	}
}

func wantLog(t *testing.T, s *store.Store, room int, want ...api.Key) {
	t.Helper()
	if l := s.Log(); !slices.Equal(l, want) || s.Room() != room {
		t.Errorf("Log is %v, Room %d, not %v, %d", l, s.Room(), want, room)
	}
}

func wantCount(t *testing.T, what string, got, want int) {
	t.Helper()
	if got != want {
		t.Errorf("%s is %d, not %d", what, got, want)
	}
}

// chance is a row of numbers that look thrown, and are the same at every run.
type chance uint64

func (c *chance) next() uint64 {
	*c = *c*6364136223846793005 + 1442695040888963407
	x := uint64(*c)
	x ^= x >> 32
	return x * 11400714819323198485
}

func (c *chance) below(n int) int { return int(c.next() >> 33 % uint64(n)) }

func pick[T any](c *chance, l []T) T { return l[c.below(len(l))] }

// number is mostly a small one, at times an edge or anything.
func (c *chance) number() uint64 {
	switch c.below(6) {
	case 0:
		return pick(c, []uint64{0, 1, 1<<63 - 1, 1 << 63, most - 1, most})
	case 1:
		return c.next()
	}
	return uint64(c.below(5))
}

func (c *chance) state(words int) api.State {
	v := state(c.number(), c.number())
	for range words {
		v.Words = append(v.Words, int64(c.number()))
	}
	return v
}

// states are so many, of up to so many words.
func (c *chance) states(parts, words int) []api.State {
	l := []api.State{}
	for range parts {
		l = append(l, c.state(c.below(words+1)))
	}
	return l
}

// climber throws calls whose keys go up, so that most of the Puts are taken.
type climber struct {
	chance
	widths []int // how many words each part has
	top    uint64
}

func newClimber(seed uint64, states []api.State) *climber {
	c := &climber{chance: chance(seed)}
	for _, v := range states {
		c.widths = append(c.widths, len(v.Words))
	}
	return c
}

// key is mostly somewhat above those ahead of it, at times beside them or below.
func (c *climber) key() api.Key {
	switch c.below(8) {
	case 0:
		return key(c.top-min(c.top, uint64(c.below(12))), c.below(3)-1, uint64(c.below(3)))
	case 1:
		return key(c.top, c.below(5)-2, uint64(c.below(5)))
	}
	c.top += uint64(c.below(3))
	return key(c.top, c.below(3)-1, uint64(c.below(3)))
}

// put is a Put, mostly to a part that there is, of as many words as it has.
func (c *climber) put(k api.Key) call {
	parts := len(c.widths)
	if parts == 0 || c.below(25) == 0 {
		return call{'P', pick(&c.chance, []int{-1, parts, parts + 1, math.MinInt, math.MaxInt}), k, c.state(0)}
	}
	part := c.below(parts)
	words := c.widths[part]
	if c.below(25) == 0 {
		words = max(0, words+pick(&c.chance, []int{-1, 1, 64}))
	}
	return call{'P', part, k, c.state(words)}
}

// call is any call; puts of ten times something is put.
func (c *climber) call(puts int) call {
	if c.below(10) < puts {
		return c.put(c.key())
	}
	return call{name: pick(&c.chance, []byte("BBBEC")), key: c.key()}
}

// spoil writes over a list and over the room behind its end.
func spoil[T any](l []T, with T) {
	l = l[:cap(l)]
	for i := range l {
		l[i] = with
	}
}
