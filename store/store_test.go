package store_test

import (
	"fmt"
	"math"
	"slices"
	"testing"

	"horizon/api"
	"horizon/store"
)

// 11.1: how many parts, words and entries there may be, asked in this order; with an error there is no store.
func TestNew(t *testing.T) {
	for _, parts := range []int{0, 1, 2, 63, 64, 65, 66, 1000} {
		for _, words := range []int{0, 1, 63, 64, 65, 66, 1000} {
			for _, undo := range []int{math.MinInt, -1, 0, 1, 4095, 4096, 4097, 1 << 32, math.MaxInt} {
				for _, at := range []int{0, parts / 2, parts - 1} {
					states := make([]api.State, parts)
					if parts > 0 {
						states[max(at, 0)].Words = make([]int64, words)
					}
					want := api.OK
					switch {
					case parts > 64:
						want = api.ErrPart
					case parts > 0 && words > 64:
						want = api.ErrWords
					case undo < 0 || undo > 4096:
						want = api.ErrUndo
					}
					s, code := store.New(states, undo)
					if code != want || (s == nil) != (want != api.OK) {
						t.Fatalf("New of %d states, %d words at %d, undo %d is %v, %d, not %d", parts, words, at, undo, s != nil, code, want)
					}
				}
			}
		}
	}
	if api.MaxParts != 64 || api.MaxWords != 64 || api.MaxUndo != 4096 {
		t.Error("the limits are others")
	}
}

// 11.1, 11.6: a new store has the states that it was given, settled; its log is empty; nothing can be taken back.
func TestNewHasItsStates(t *testing.T) {
	c := chance(111)
	for range 200 {
		states, undo := c.states(c.below(65), c.below(65)), c.below(4097)
		s := made(t, states, undo)
		if !sameAll(s.States(), states) || !sameAll(s.Settled(), states) {
			t.Fatalf("States %v, Settled %v, not %v", s.States(), s.Settled(), states)
		}
		for part, v := range states {
			wantState(t, s, part, v)
		}
		wantLog(t, s, undo)
		wantCount(t, "Back", s.Back(api.Key{Src: math.MinInt}), 0)
		wantCount(t, "Clear", s.Clear(), 0)
		wantCount(t, "Commit", s.Commit(), 0)
		sameLook(t, s, newSlow(states, undo), "nothing")
	}
}

// 11.1: there may be no states.
func TestNoParts(t *testing.T) {
	for _, states := range [][]api.State{nil, {}} {
		s := made(t, states, 0)
		if len(s.States()) != 0 || len(s.Settled()) != 0 || s.Digest() != 1696784233 {
			t.Errorf("States %v, Settled %v, Digest %d", s.States(), s.Settled(), s.Digest())
		}
		for _, part := range []int{-1, 0, 1} {
			wantPut(t, s, part, key(1, 0, 0), api.State{}, api.ErrPart)
			if v, code := s.State(part); !same(v, api.State{}) || code != api.ErrPart {
				t.Errorf("State(%d) is %v, %d", part, v, code)
			}
		}
		wantLog(t, s, 0)
	}
}

// The words' note: Words that are nil and Words that are empty are the same, where they come in and where a Put is asked for as many.
func TestNoWords(t *testing.T) {
	for _, was := range [][]int64{nil, {}} {
		for _, v := range [][]int64{nil, {}} {
			s := made(t, []api.State{{Words: was, Dice: 1}}, 2)
			wantPut(t, s, 0, key(1, 0, 0), api.State{Words: v, Dice: 2}, api.OK)
			wantState(t, s, 0, state(2, 0))
			wantPut(t, s, 0, key(2, 0, 0), state(2, 0, 0), api.ErrWords)
			wantCount(t, "Back", s.Back(key(1, 0, 0)), 1)
			wantState(t, s, 0, state(1, 0))
			if s.Digest() != slowDigest([]api.State{{Dice: 1}}) {
				t.Errorf("Digest is %d", s.Digest())
			}
		}
	}
}

// 11.2: there is no part below 0, nor from their number on.
func TestStateOfNoPart(t *testing.T) {
	for _, parts := range []int{0, 1, 2, 64} {
		c := chance(parts)
		s := made(t, c.states(parts, 3), 4)
		for _, part := range []int{math.MinInt, -64, -1, parts, parts + 1, 65, 1 << 32, math.MaxInt} {
			if v, code := s.State(part); v.Words != nil || v.Dice != 0 || v.Sent != 0 || code != api.ErrPart {
				t.Errorf("State(%d) of %d parts is %v, %d", part, parts, v, code)
			}
		}
	}
}

// 11.1 to 11.7: the chapter's examples, in their order.
func TestExamples(t *testing.T) {
	for _, undo := range []int{-1, 4097} {
		if s, code := store.New(two(), undo); s != nil || code != api.ErrUndo {
			t.Errorf("New with undo %d is %v, %d", undo, s, code)
		}
	}
	if s, code := store.New(make([]api.State, 65), 3); s != nil || code != api.ErrPart {
		t.Errorf("New of 65 states is %v, %d", s, code)
	}
	s := made(t, two(), 3)
	if s.Digest() != 3417716189 {
		t.Errorf("Digest is %d", s.Digest())
	}
	wantPut(t, s, 0, key(4, 0, 0), state(7, 1, 9, 9), api.OK)
	wantState(t, s, 0, state(7, 1, 9, 9))
	if l := s.Settled(); !sameAll(l, two()) {
		t.Errorf("Settled is %v", l)
	}
	wantLog(t, s, 2, key(4, 0, 0))
	wantPut(t, s, 1, key(4, 0, 0), state(8, 2), api.ErrKey)
	wantPut(t, s, 1, key(3, 9, 9), state(8, 2), api.ErrKey)
	wantPut(t, s, 1, key(5, 0, 0), state(8, 2, 1), api.ErrWords)
	wantPut(t, s, 2, key(5, 0, 0), state(8, 2), api.ErrPart)
	wantPut(t, s, 1, key(5, 0, 0), state(8, 2), api.OK)
	wantPut(t, s, 0, key(6, 0, 0), state(7, 1, 3, 3), api.OK)
	wantPut(t, s, 0, key(7, 0, 0), state(7, 1, 3, 3), api.ErrUndo)
	wantPut(t, s, 0, key(6, 0, 0), state(7, 1, 3, 3), api.ErrUndo)
	wantCount(t, "Back", s.Back(key(5, 0, 0)), 2)
	wantState(t, s, 0, state(7, 1, 9, 9))
	wantState(t, s, 1, state(6, 1))
	wantLog(t, s, 2, key(4, 0, 0))
	wantPut(t, s, 1, key(4, 0, 1), state(8, 2), api.OK)
	wantCount(t, "Commit", s.Commit(), 2)
	wantLog(t, s, 3)
	for _, k := range edges() {
		wantCount(t, "Back behind Commit", s.Back(k), 0)
	}
	wantPut(t, s, 0, key(4, 0, 1), state(0, 0, 0, 0), api.ErrKey)
	wantPut(t, s, 0, key(4, 0, 2), state(0, 0, 0, 0), api.OK)
	wantCount(t, "Clear", s.Clear(), 1)
	wantPut(t, s, 0, key(4, 0, 2), state(0, 0, 0, 0), api.OK)
}

// 11.3: of several reasons the first is told, and nothing changes.
func TestPutRefused(t *testing.T) {
	for _, full := range []bool{false, true} {
		s := made(t, two(), 2)
		wantPut(t, s, 1, key(3, 0, 0), state(1, 1), api.OK)
		if full {
			wantPut(t, s, 0, key(3, 0, 1), state(1, 1, 5, 5), api.OK)
		}
		before := look(s)
		for _, part := range []int{0, 1, -1, 2, math.MinInt, math.MaxInt} {
			for words := range 5 {
				for _, k := range []api.Key{key(0, 0, 0), key(3, 0, 0), key(2, 9, 9), key(3, -1, 9), key(9, 9, 9)} {
					want := api.OK
					switch {
					case part < 0 || part > 1:
						want = api.ErrPart
					case words != 2-2*part:
						want = api.ErrWords
					case full:
						want = api.ErrUndo
					case k.Time < 9:
						want = api.ErrKey
					}
					if want == api.OK {
						continue
					}
					wantPut(t, s, part, k, api.State{Words: make([]int64, words), Dice: 3}, want)
					if look(s) != before {
						t.Fatalf("a refused Put(%d, %v) has changed the store into\n%s\nfrom\n%s", part, k, look(s), before)
					}
				}
			}
		}
	}
}

// 11.3: the log has room for as many as New was told, and for none where that is 0, whatever the key.
func TestRoom(t *testing.T) {
	for _, undo := range []int{0, 1, 2, 3, 100, 4096} {
		s := made(t, two(), undo)
		for round := range 3 {
			for i := range undo {
				wantCount(t, "Room", s.Room(), undo-i)
				wantPut(t, s, i%2, key(uint64(round), 0, uint64(i)), state(1, 1, make([]int64, 2-2*(i%2))...), api.OK)
			}
			wantCount(t, "Room", s.Room(), 0)
			wantPut(t, s, 1, key(0, -1, 0), state(1, 1), api.ErrUndo)
			wantPut(t, s, 1, key(9, 9, 9), state(1, 1), api.ErrUndo)
			if l := s.Log(); len(l) != undo {
				t.Errorf("undo %d: the log has %d keys", undo, len(l))
			}
			switch round {
			case 0:
				wantCount(t, "Commit", s.Commit(), undo)
			case 1:
				wantCount(t, "Back", s.Back(key(1, 0, 0)), undo)
			case 2:
				wantCount(t, "Clear", s.Clear(), undo)
			}
		}
	}
}

// 11.3: a key must be above the last one in layer 1's order: Time first, then Src, with its sign, then Seq.
func TestKeysRise(t *testing.T) {
	l := edges()
	for i, a := range l {
		for j, b := range l {
			open, done := made(t, two(), 4), made(t, two(), 4)
			for _, s := range []*store.Store{open, done} {
				wantPut(t, s, 1, a, state(7, 7), api.OK)
			}
			done.Commit()
			want := api.OK
			if j <= i {
				want = api.ErrKey
			}
			wantPut(t, open, 0, b, state(7, 7, 7, 7), want)
			wantPut(t, done, 0, b, state(7, 7, 7, 7), want)
		}
	}
	s := made(t, two(), len(l))
	for _, k := range l {
		wantPut(t, s, 1, k, state(7, 7), api.OK)
	}
	wantLog(t, s, 0, l...)
}

// 11.3: any key will do ahead of the first Put, and again if all Puts were taken back; the zero key too.
func TestAnyFirstKey(t *testing.T) {
	for _, k := range edges() {
		s := made(t, two(), 4)
		s.Commit()
		wantPut(t, s, 1, k, state(7, 7), api.OK)
		wantCount(t, "Clear", s.Clear(), 1)
		s.Commit()
		wantPut(t, s, 1, key(0, math.MinInt, 0), state(7, 7), api.OK)
		wantCount(t, "Back", s.Back(key(0, math.MinInt, 0)), 1)
		wantPut(t, s, 1, key(most, math.MaxInt, most), state(7, 7), api.OK)
		wantPut(t, s, 1, key(most, math.MaxInt, most), state(7, 7), api.ErrKey)
		wantCount(t, "Back", s.Back(k), 1)
		wantPut(t, s, 1, k, state(7, 7), api.OK)
	}
}

// 11.3: the last key is the latest that was not taken back, whether it is committed or not; a refused Put leaves none.
func TestLastKey(t *testing.T) {
	s := made(t, two(), 4)
	last := func(time uint64) {
		t.Helper()
		wantPut(t, s, 1, key(time, 0, 0), state(7, 7), api.ErrKey)
		wantPut(t, s, 1, key(time, 0, 1), state(7, 7), api.OK)
		wantCount(t, "Back", s.Back(key(time, 0, 1)), 1)
	}
	for _, time := range []uint64{3, 5, 7} {
		wantPut(t, s, 1, key(time, 0, 0), state(7, 7), api.OK)
		last(time)
	}
	wantPut(t, s, 0, key(8, 0, 0), state(7, 7), api.ErrWords)
	wantPut(t, s, 2, key(9, 0, 0), state(7, 7), api.ErrPart)
	last(7)
	wantCount(t, "Back", s.Back(key(6, 0, 0)), 1)
	last(5)
	wantCount(t, "Commit", s.Commit(), 2)
	last(5)
	wantCount(t, "Commit", s.Commit(), 0)
	last(5)
	wantPut(t, s, 1, key(9, 0, 0), state(7, 7), api.OK)
	last(9)
	wantCount(t, "Clear", s.Clear(), 1)
	last(5)
	wantCount(t, "Clear", s.Clear(), 0)
	wantCount(t, "Back", s.Back(key(0, 0, 0)), 0)
	last(5)
	for i := range 4 {
		wantPut(t, s, 1, key(20, 0, uint64(i)), state(7, 7), api.OK)
	}
	wantPut(t, s, 1, key(30, 0, 0), state(7, 7), api.ErrUndo)
	wantCount(t, "Commit", s.Commit(), 4)
	wantPut(t, s, 1, key(20, 0, 3), state(7, 7), api.ErrKey)
	wantPut(t, s, 1, key(20, 0, 4), state(7, 7), api.OK)
}

// 11.4: all entries under the key and above are taken back, whether the key is there or lies between, and no others.
func TestBackAtEveryKey(t *testing.T) {
	l := edges()
	for i, k := range l {
		s := made(t, []api.State{state(0, 0, -1), state(0, 0, -1)}, len(l))
		put := 0
		for j := 0; j < len(l); j += 2 {
			wantPut(t, s, j/2%2, l[j], state(uint64(j), 0, int64(j)), api.OK)
			put++
		}
		left := (i + 1) / 2
		wantCount(t, fmt.Sprint("Back of ", k), s.Back(k), put-left)
		if keys := s.Log(); len(keys) != left || left > 0 && keys[left-1] != l[2*left-2] {
			t.Fatalf("behind Back of %v the log is %v", k, keys)
		}
		for part := range 2 {
			want := state(0, 0, -1)
			for j := range left {
				if j%2 == part {
					want = state(uint64(2*j), 0, int64(2*j))
				}
			}
			wantState(t, s, part, want)
		}
		wantCount(t, "Back again", s.Back(k), 0)
	}
}

// 11.4, 11.6: a part that was changed often comes back step by step, Settled staying all the while; so does one that was changed to what it had.
func TestBackStepByStep(t *testing.T) {
	s := made(t, two(), 20)
	rows := [][]int64{{5, 5}, {6, 6}, {1, 2}, {6, 6}, {6, 6}, {7, 7}}
	for i, row := range rows {
		wantPut(t, s, 0, key(uint64(i), 0, 0), state(5, 0, row...), api.OK)
		wantPut(t, s, 1, key(uint64(i), 1, 0), state(uint64(i), 3), api.OK)
	}
	for i := len(rows) - 1; i >= 0; i-- {
		wantState(t, s, 0, state(5, 0, rows[i]...))
		wantState(t, s, 1, state(uint64(i), 3))
		if !sameAll(s.Settled(), two()) {
			t.Errorf("at %d Settled is %v", i, s.Settled())
		}
		wantCount(t, "Back", s.Back(key(uint64(i), 1, 0)), 1)
		wantCount(t, "Back", s.Back(key(uint64(i), 0, 0)), 1)
	}
	if !sameAll(s.States(), two()) || !sameAll(s.Settled(), two()) {
		t.Errorf("States %v, Settled %v", s.States(), s.Settled())
	}
	wantPut(t, s, 0, key(0, 0, 0), state(1, 1, 8, 8), api.OK)
	s.Commit()
	want := []api.State{state(1, 1, 8, 8), two()[1]}
	if !sameAll(s.Settled(), want) {
		t.Errorf("Settled is %v behind a Commit", s.Settled())
	}
	wantPut(t, s, 1, key(1, 0, 0), state(1, 1), api.OK)
	if !sameAll(s.Settled(), want) {
		t.Errorf("Settled is %v", s.Settled())
	}
}

// 11.4, 11.5: what was committed stays, whatever is taken back; Clear and Commit tell how many, and then none.
func TestCommittedStays(t *testing.T) {
	s := made(t, two(), 9)
	now := two()
	for round := range uint64(5) {
		for i := range 2 * round {
			v := state(round, i, int64(i), 5)
			wantPut(t, s, 0, key(round, 0, i), v, api.OK)
			now[0] = v
		}
		wantCount(t, "Commit", s.Commit(), int(2*round))
		wantCount(t, "Commit again", s.Commit(), 0)
		wantLog(t, s, 9)
		for _, k := range edges() {
			wantCount(t, "Back", s.Back(k), 0)
		}
		wantCount(t, "Clear", s.Clear(), 0)
		if !sameAll(s.States(), now) || !sameAll(s.Settled(), now) {
			t.Errorf("round %d: States %v, Settled %v, not %v", round, s.States(), s.Settled(), now)
		}
		for i := range 3 {
			wantPut(t, s, i%2, key(round, 9, uint64(i)), state(50, 50, make([]int64, 2-2*(i%2))...), api.OK)
		}
		if !sameAll(s.Settled(), now) {
			t.Errorf("round %d: Settled %v, not %v", round, s.Settled(), now)
		}
		wantCount(t, "Clear", s.Clear(), 3)
		if !sameAll(s.States(), now) {
			t.Errorf("round %d: States %v behind a Clear, not %v", round, s.States(), now)
		}
	}
}

// 11.1, 11.3 to 11.7: a store as large as can be.
func TestLargest(t *testing.T) {
	c := chance(64)
	var states []api.State
	for range api.MaxParts {
		states = append(states, c.state(api.MaxWords))
	}
	s, slow := made(t, states, api.MaxUndo), newSlow(states, api.MaxUndo)
	var keys []api.Key
	for i := range uint64(api.MaxUndo) {
		part, k, v := c.below(api.MaxParts), key(i/3, 0, i), c.state(api.MaxWords)
		keys = append(keys, k)
		if s.Put(part, k, v) != api.OK || slow.Put(part, k, v) != api.OK {
			t.Fatalf("Put %d is refused", i)
		}
	}
	wantPut(t, s, 0, key(most, 0, 0), states[0], api.ErrUndo)
	wantLog(t, s, 0, keys...)
	sameLook(t, s, slow, "all Puts")
	for _, k := range []api.Key{keys[4000], keys[4000], keys[70]} {
		alike(t, s, slow, call{name: 'B', key: k})
	}
	alike(t, s, slow, call{name: 'C'})
	alike(t, s, slow, call{'P', 63, keys[4000], states[5]})
	alike(t, s, slow, call{name: 'E'})
	if slices.EqualFunc(s.States(), states, same) {
		t.Error("all that was committed is gone")
	}
}
