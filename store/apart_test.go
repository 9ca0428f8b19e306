package store_test

import (
	"runtime"
	"slices"
	"testing"

	"horizon/api"
)

// roomy is states, and a list of them, with room behind each list's end.
func roomy(states []api.State) []api.State {
	l := make([]api.State, 0, len(states)+3)
	for _, v := range states {
		l = append(l, roomyState(v))
	}
	spoil(l[len(l):], state(77, 77, 77))
	return l
}

func roomyState(v api.State) api.State {
	words := append(make([]int64, 0, len(v.Words)+3), v.Words...)
	spoil(words[len(words):], 77)
	v.Words = words
	return v
}

// whole is a list with what lies behind its end.
func whole[T any](l []T) []T { return l[:cap(l)] }

// 0.4: what is handed in is not changed, nor what lies behind it.
func TestHandedInIsNotChanged(t *testing.T) {
	c := chance(4)
	for i := range 200 {
		states := c.states(c.below(4), 3)
		in := roomy(states)
		s := made(t, in, 5)
		throw := newClimber(uint64(i), states)
		for range 20 {
			x := throw.call(7)
			x.state = roomyState(x.state)
			before := slices.Clone(whole(x.state.Words))
			do(s, x)
			if !slices.Equal(whole(x.state.Words), before) {
				t.Fatalf("%v has changed its words", x)
			}
		}
		again := roomy(states)
		if !sameAll(whole(in), whole(again)) {
			t.Fatalf("New, or what came behind it, has changed %v into %v", whole(again), whole(in))
		}
		for j := range states {
			if !slices.Equal(whole(in[j].Words), whole(again[j].Words)) {
				t.Fatalf("behind the words of state %d there is %v", j, whole(in[j].Words))
			}
		}
	}
}

// 0.4: who writes over what was handed in, or behind it, changes nothing.
func TestHandedInIsNotKept(t *testing.T) {
	c := chance(40)
	for i := range 100 {
		states := c.states(c.below(4), 3)
		in := roomy(states)
		s, slow := made(t, in, 6), newSlow(states, 6)
		for _, v := range in {
			spoil(v.Words, -9)
		}
		spoil(in, state(9, 9, 9))
		sameLook(t, s, slow, "New")
		throw := newClimber(uint64(i), states)
		for range 60 {
			x := throw.call(7)
			mine := x
			mine.state = roomyState(x.state)
			if a, b := do(s, mine), do(slow, x); a != b {
				t.Fatalf("%v is %v, not %v", x, a, b)
			}
			spoil(mine.state.Words, -9)
			sameLook(t, s, slow, x)
		}
	}
}

// lists is all lists of words that an answer has.
func lists(states []api.State) (l [][]int64) {
	for _, v := range states {
		l = append(l, v.Words)
	}
	return l
}

// 0.4: what is handed out is nobody else's: not the store's, not another answer's, not another list's of one answer, nor the room behind it.
func TestHandedOutIsApart(t *testing.T) {
	c := chance(41)
	for i := range 60 {
		states := c.states(1+c.below(4), 4)
		s, slow := made(t, states, 8), newSlow(states, 8)
		throw := newClimber(uint64(i), states)
		var words, kept [][]int64
		for range 60 {
			alike(t, s, slow, throw.call(7))
			one, _ := s.State(c.below(len(states)))
			log, all, settled := s.Log(), s.States(), s.Settled()
			words = append(words, one.Words)
			words = append(words, lists(all)...)
			words = append(words, lists(settled)...)
			for len(kept) < len(words) {
				kept = append(kept, slices.Clone(words[len(kept)]))
			}
			spoil(log, key(99, 99, 99))
			spoil(all, state(99, 99, 99))
			spoil(settled, state(99, 99, 99))
			for range 4 {
				at := c.below(len(words))
				spoil(words[at], int64(-at))
				spoil(kept[at][:len(kept[at]):len(kept[at])], int64(-at))
				_ = append(words[c.below(len(words))], 55)
			}
			sameLook(t, s, slow, "writing over answers")
		}
		for j := range words {
			if !slices.Equal(words[j], kept[j]) {
				t.Fatalf("list %d is %v, not %v", j, words[j], kept[j])
			}
		}
	}
}

// 0.4: what was handed out, put in again and then written over, is as good as anything else.
func TestPutWhatWasHandedOut(t *testing.T) {
	s := made(t, two(), 9)
	v, _ := s.State(0)
	wantPut(t, s, 0, key(1, 0, 0), v, api.OK)
	v.Words[0] = 70
	wantState(t, s, 0, two()[0])
	l := s.Settled()
	wantPut(t, s, 0, key(2, 0, 0), l[0], api.OK)
	l[0].Words[1] = 80
	wantState(t, s, 0, two()[0])
	wantCount(t, "Clear", s.Clear(), 2)
	if !sameAll(s.States(), two()) || !sameAll(s.Settled(), two()) {
		t.Errorf("States %v, Settled %v", s.States(), s.Settled())
	}
}

// 11.6: what only looks changes nothing, however often it looks.
func TestLooksChangeNothing(t *testing.T) {
	c := chance(116)
	for i := range 30 {
		states := c.states(c.below(4), 3)
		often, never := made(t, states, 6), made(t, states, 6)
		throw := newClimber(uint64(i), states)
		for range 50 {
			for range 3 {
				look(often)
			}
			x := throw.call(7)
			if a, b := do(often, x), do(never, x); a != b {
				t.Fatalf("%v is %v where somebody looked, else %v", x, a, b)
			}
		}
		sameLook(t, often, never, "looking")
	}
}

// heap is how many bytes are in use.
func heap() int {
	var m runtime.MemStats
	for range 3 {
		runtime.GC()
	}
	runtime.ReadMemStats(&m)
	return int(m.HeapAlloc)
}

// Language, 8: a store holds on to no state that can't come back.
func TestHoldsOnToNothing(t *testing.T) {
	const bytes = api.MaxUndo * api.MaxWords * 8
	s := made(t, []api.State{{Words: make([]int64, api.MaxWords)}, {Words: make([]int64, api.MaxWords)}}, api.MaxUndo)
	v := api.State{Words: make([]int64, api.MaxWords)}
	empty := heap()
	for i, ends := range []func() int{s.Clear, s.Commit, func() int { return s.Back(key(3, 0, 0)) }} {
		for seq := range uint64(api.MaxUndo) {
			wantPut(t, s, int(seq%2), key(uint64(i+1), 0, seq), v, api.OK)
		}
		if n := heap() - empty; n < bytes*3/4 {
			t.Fatalf("a full log takes %d bytes only", n)
		}
		wantCount(t, "what goes", ends(), api.MaxUndo)
		if n := heap() - empty; n > bytes/2 {
			t.Errorf("at %d: %d bytes are held on to behind a log of %d", i, n, bytes)
		}
	}
	runtime.KeepAlive(s)
}
