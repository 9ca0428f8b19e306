package store_test

import (
	"testing"

	"horizon/api"
	"horizon/stamp"
	"horizon/store"
)

func rises(a, b api.Key) bool { return stamp.Compare(a, b) < 0 }

// 11.2 to 11.7: thrown calls on stores of many sizes answer as the chapter's words read slowly.
func TestThrownCalls(t *testing.T) {
	c := chance(11)
	codes := map[api.Errno]int{}
	counts := map[byte]int{}
	for i := range 60 {
		states := c.states(pick(&c, []int{0, 1, 2, 3, 8, 64}), pick(&c, []int{0, 1, 3, 64}))
		undo := pick(&c, []int{0, 1, 2, 5, 20, 4096})
		puts := 5 + c.below(5)
		s, slow := made(t, states, undo), newSlow(states, undo)
		throw := newClimber(uint64(i), states)
		for range 300 {
			x := throw.call(puts)
			a := alike(t, s, slow, x)
			counts[x.name] += a.count
			if x.name == 'P' {
				codes[a.code]++
			}
		}
	}
	for _, code := range []api.Errno{api.OK, api.ErrPart, api.ErrWords, api.ErrUndo, api.ErrKey} {
		if codes[code] < 200 {
			t.Errorf("only %d Puts were answered by %d", codes[code], code)
		}
	}
	for _, name := range []byte("BEC") {
		if counts[name] < 200 {
			t.Errorf("all calls of %c together only told %d", name, counts[name])
		}
	}
}

// detour makes Puts under keys that are k or above on a store, and takes them back.
func detour(t *testing.T, s *store.Store, throw *climber, k api.Key, puts int) int {
	t.Helper()
	taken := 0
	for range puts {
		x := throw.put(throw.key())
		if rises(x.key, k) {
			x.key = k
		}
		if do(s, x).code == api.OK {
			taken++
		}
	}
	wantCount(t, "Back", s.Back(k), taken)
	return taken
}

// 11.8: of two stores one makes detours: both answer alike, whatever is asked, as long as they live.
func TestAsIfItHadNeverBeen(t *testing.T) {
	c := chance(118)
	taken, behindCommitted := 0, 0
	for i := range 60 {
		states := c.states(1+c.below(4), 3)
		undo := pick(&c, []int{1, 2, 5, 20, 100})
		plain, other := made(t, states, undo), made(t, states, undo)
		throw, aside := newClimber(uint64(i), states), newClimber(uint64(1000+i), states)
		for range 200 {
			k := throw.key()
			aside.top = k.Time
			if log := plain.Log(); len(log) == 0 || rises(log[len(log)-1], k) {
				n := detour(t, other, aside, k, c.below(8))
				taken += n
				if n > 0 && len(log) == 0 {
					behindCommitted++
				}
				sameLook(t, other, plain, "a detour")
			}
			alike(t, other, plain, throw.call(6))
		}
	}
	if taken < 2000 || behindCommitted < 200 {
		t.Errorf("only %d Puts were taken back, %d times with an empty log", taken, behindCommitted)
	}
}

// 0.3: the same calls are answered alike again, and stores know nothing of one another.
func TestStoresAreApart(t *testing.T) {
	c := chance(3)
	var stores []*store.Store
	var slows []*slow
	var throws []*climber
	for i := range 5 {
		states := c.states(i, 2)
		// Two of each: the second one hears what the first one hears.
		stores = append(stores, made(t, states, 2*i), made(t, states, 2*i))
		slows = append(slows, newSlow(states, 2*i))
		throws = append(throws, newClimber(uint64(i), states))
	}
	for range 3000 {
		at := c.below(5)
		x := throws[at].call(7)
		alike(t, stores[2*at], slows[at], x)
		do(stores[2*at+1], x)
		for j := range stores {
			sameLook(t, stores[j], slows[j/2], x)
		}
	}
}
