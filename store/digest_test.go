package store_test

import (
	"testing"

	"horizon/api"
)

// 11.7: the sums of a few stores, to the letter.
func TestDigests(t *testing.T) {
	for _, x := range []struct {
		states []api.State
		want   uint32
	}{
		{nil, 1696784233},
		{two(), 3417716189},
	} {
		if d := made(t, x.states, 0).Digest(); d != x.want || slowDigest(x.states) != x.want {
			t.Errorf("Digest of %v is %d, not %d", x.states, d, x.want)
		}
	}
}

// 11.7: the sum is of the bytes that the chapter says, at edges of every number.
func TestDigestOfManyStores(t *testing.T) {
	c := chance(117)
	for range 500 {
		states := c.states(c.below(65), c.below(65))
		if d := made(t, states, 0).Digest(); d != slowDigest(states) {
			t.Fatalf("Digest of %v is %d, not %d", states, d, slowDigest(states))
		}
	}
	for _, x := range []uint64{0, 1, 255, 256, 1 << 31, 1 << 32, 1<<63 - 1, 1 << 63, most, 0x0102030405060708} {
		for _, states := range [][]api.State{{state(x, 0)}, {state(0, x)}, {state(0, 0, int64(x))}, {state(1, 2, 3, int64(x)), state(x, 9)}} {
			if d := made(t, states, 0).Digest(); d != slowDigest(states) {
				t.Errorf("Digest of %v is %d, not %d", states, d, slowDigest(states))
			}
		}
	}
}

// 11.7: the sum is of the states alone, whatever the way that led to them.
func TestDigestIsOfTheStates(t *testing.T) {
	s := made(t, two(), 9)
	first := s.Digest()
	wantPut(t, s, 0, key(1, 0, 0), state(5, 1, 1, 2), api.OK)
	wantPut(t, s, 1, key(2, 0, 0), state(0, 0), api.OK)
	if d := s.Digest(); d != slowDigest([]api.State{state(5, 1, 1, 2), state(0, 0)}) {
		t.Errorf("Digest is %d", d)
	}
	for i, v := range two() {
		wantPut(t, s, i, key(3, 0, uint64(i)), v, api.OK)
	}
	if d := s.Digest(); d != first {
		t.Errorf("Digest is %d, not %d", d, first)
	}
	s.Commit()
	if d := s.Digest(); d != first {
		t.Errorf("Digest is %d behind a Commit, not %d", d, first)
	}
}

// flipped is states that differ from others by bits of one number of one part: a word, its Dice (at the number of words), its Sent.
func flipped(states []api.State, part, number int, bits uint64) []api.State {
	l := cloneAll(states)
	v := &l[part]
	switch words := len(v.Words); number {
	case words:
		v.Dice ^= bits
	case words + 1:
		v.Sent ^= bits
	default:
		v.Words[number] ^= int64(bits)
	}
	return l
}

// rank is how many of these are not sums, without carry, of others.
func rank(l []uint32) int {
	var tops [32]uint32
	n := 0
	for _, x := range l {
		for b := 31; b >= 0 && x != 0; b-- {
			if x>>b&1 == 0 {
				continue
			}
			if tops[b] == 0 {
				tops[b] = x
				n++
				x = 0
				break
			}
			x ^= tops[b]
		}
	}
	return n
}

// 11.9: at every number of a store, what its bits change within any 32 side by side never cancels out: for the sum of changes is the change of all of them.
func TestDigestTellsThirtyTwoBits(t *testing.T) {
	c := chance(119)
	for _, states := range [][]api.State{two(), {state(0, 0)}, {state(0, 0), c.state(1), c.state(64)}, c.states(9, 9)} {
		digest := func(part, number int, bits uint64) uint32 {
			return made(t, flipped(states, part, number, bits), 0).Digest()
		}
		base := made(t, states, 0).Digest()
		for part, v := range states {
			for number := range len(v.Words) + 2 {
				var change [64]uint32
				for b := range change {
					change[b] = digest(part, number, 1<<b) ^ base
				}
				for low := range 33 {
					if n := rank(change[low : low+32]); n != 32 {
						t.Fatalf("part %d, number %d: of the bits from %d on %d tell", part, number, low, n)
					}
				}
				for range 20 {
					bits := c.next()
					sum := base
					for b := range change {
						if bits>>b&1 == 1 {
							sum ^= change[b]
						}
					}
					if d := digest(part, number, bits); d != sum {
						t.Fatalf("part %d, number %d, bits %x: Digest is %d, not %d", part, number, bits, d, sum)
					}
				}
			}
		}
	}
}

// 11.9: thrown changes within 32 bits, put into a store or there from the start, change the Digest.
func TestDigestTellsThrownChanges(t *testing.T) {
	c := chance(1190)
	for range 3000 {
		states := c.states(1+c.below(6), 6)
		part := c.below(len(states))
		number := c.below(len(states[part].Words) + 2)
		bits := uint64(uint32(c.next())) << c.below(33)
		if bits == 0 {
			continue
		}
		other := flipped(states, part, number, bits)
		a, b := made(t, states, 1), made(t, other, 1)
		if a.Digest() == b.Digest() {
			t.Fatalf("%v and %v have one Digest", states, other)
		}
		wantPut(t, a, part, key(1, 0, 0), other[part], api.OK)
		if a.Digest() != b.Digest() {
			t.Fatalf("Digest is %d behind a Put, not %d", a.Digest(), b.Digest())
		}
	}
}
