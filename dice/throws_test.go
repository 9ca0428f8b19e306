package dice_test

import (
	"math"
	"math/big"
	"slices"
	"testing"

	"horizon/api"
	"horizon/dice"
)

// 2.4
func TestBelowExamples(t *testing.T) {
	s := dice.Seed(7, 0)
	for i, want := range []uint64{5, 2, 0, 1, 1, 2, 1, 3, 4, 2} {
		x, next, e := dice.Below(s, 6)
		if x != want || e != api.OK {
			t.Errorf("throw %d: Below(%d, 6) = %d, %d, want %d", i, s, x, e, want)
		}
		s = next
	}
	if s != 7383462469409826661 {
		t.Errorf("the state behind ten throws: %d", s)
	}
	if x, s, e := dice.Below(0, 1<<63+1); x != 6512150382280034240 || s != 1876011003808476466 || e != api.OK {
		t.Errorf("Below(0, 2^63+1) = %d, %d, %d", x, s, e)
	}
}

// 2.4
func TestBelowNothing(t *testing.T) {
	for _, from := range states() {
		x, s, e := dice.Below(from, 0)
		refused(t, "Below(.., 0)", x, s, e, from, api.ErrSpan)
	}
}

// 2.4: the bound at which a number counts, and one below it.
func TestBelowAtTheRemainder(t *testing.T) {
	for _, n := range []uint64{3, 5, 6, 7, 10, 1000, 1<<32 + 1, 1<<63 + 1, 1<<63 + 5, most / 3, most - 1, most} {
		w := new(big.Int).Mod(new(big.Int).Lsh(bigOf(1), 64), bigOf(n)).Uint64()
		from := throwing(w)
		if x, s, e := dice.Below(from, n); x != w%n || s != jumped(from, 1) || e != api.OK {
			t.Errorf("Below(%d, %d) = %d, %d, %d: %d counts", from, n, x, s, e, w)
		}
		from = throwing(w - 1)
		want, behind, k := below(from, n)
		if x, s, e := dice.Below(from, n); k < 2 || x != want || s != behind || e != api.OK {
			t.Errorf("Below(%d, %d) = %d, %d, %d: %d does not count", from, n, x, s, e, w-1)
		}
	}
}

// 2.4
func TestBelowPowersOfTwo(t *testing.T) {
	for _, from := range states() {
		for i := range 64 {
			n := uint64(1) << i
			next, thrown := dice.Next(from)
			if x, s, e := dice.Below(from, n); x != thrown%n || s != next || e != api.OK {
				t.Fatalf("Below(%d, 2^%d) = %d, %d, %d, want %d, %d", from, i, x, s, e, thrown%n, next)
			}
		}
	}
	if x, s, e := dice.Below(throwing(0), 1<<40); x != 0 || s != jumped(throwing(0), 1) || e != api.OK {
		t.Errorf("a thrown 0 counts below 2^40: %d, %d, %d", x, s, e)
	}
}

// 2.4
func TestBelowAll(t *testing.T) {
	bounds := append(states(), 1, 2, 3, 6, 100, 1<<63+1, 1<<63+2, most/2+77)
	for _, from := range states() {
		for _, n := range bounds {
			if n == 0 {
				continue
			}
			want, behind, _ := below(from, n)
			if x, s, e := dice.Below(from, n); x != want || s != behind || e != api.OK {
				t.Fatalf("Below(%d, %d) = %d, %d, %d, want %d, %d", from, n, x, s, e, want, behind)
			}
		}
	}
}

// 2.4: nearly each second number is thrown again; the last one that may be thrown is the one, whatever it is.
func TestBelowThrowsNoMoreThanItMay(t *testing.T) {
	const n = 1<<63 + 1
	seen := [api.MaxThrows + 1]int{}
	unfit := 0
	s := uint64(5)
	for range 20000 {
		want, behind, k := below(s, n)
		seen[k]++
		x, next, e := dice.Below(s, n)
		if x != want || next != behind || e != api.OK {
			t.Fatalf("Below(%d, 2^63+1) = %d, %d, %d, want %d, %d", s, x, next, e, want, behind)
		}
		if _, last := dice.Next(dice.Back(behind)); last < n-2 {
			unfit++
		}
		s = jumped(s, 1)
	}
	for k, times := range seen[1:] {
		if times == 0 {
			t.Errorf("no row of %d throws was met", k+1)
		}
	}
	if unfit == 0 {
		t.Errorf("no last number was met that does not count by itself")
	}
}

// 2.5
func TestSpanRefuses(t *testing.T) {
	for _, c := range []struct{ lo, hi int64 }{{5, 4}, {0, -1}, {math.MaxInt64, math.MinInt64}, {math.MinInt64 + 1, math.MinInt64}, {math.MaxInt64, math.MaxInt64 - 1}} {
		x, s, e := dice.Span(3, c.lo, c.hi)
		refused(t, "Span of nothing", x, s, e, 3, api.ErrSpan)
	}
}

// 2.5
func TestSpanOfOne(t *testing.T) {
	for _, at := range []int64{4, 0, -1, math.MaxInt64, math.MinInt64} {
		if x, s, e := dice.Span(3, at, at); x != at || s != jumped(3, 1) || e != api.OK {
			t.Errorf("Span(3, %d, %d) = %d, %d, %d", at, at, x, s, e)
		}
	}
}

// 2.5
func TestSpanOfAll(t *testing.T) {
	for _, thrown := range states() {
		from := throwing(thrown)
		want := new(big.Int).Add(big.NewInt(math.MinInt64), bigOf(thrown)).Int64()
		if x, s, e := dice.Span(from, math.MinInt64, math.MaxInt64); x != want || s != jumped(from, 1) || e != api.OK {
			t.Errorf("the whole span from %d = %d, %d, %d, want %d", from, x, s, e, want)
		}
	}
}

// 2.5
func TestSpanLiesBetween(t *testing.T) {
	spans := []struct{ lo, hi int64 }{
		{-3, 4}, {0, 5}, {1, 6}, {-100, -90}, {math.MinInt64, 0}, {math.MinInt64, -1}, {-1, math.MaxInt64}, {0, math.MaxInt64},
		{math.MinInt64, math.MaxInt64 - 1}, {math.MinInt64 + 1, math.MaxInt64}, {math.MaxInt64 - 2, math.MaxInt64}, {math.MinInt64, math.MinInt64 + 2},
	}
	for _, from := range states() {
		for _, c := range spans {
			n := new(big.Int).Sub(big.NewInt(c.hi), big.NewInt(c.lo))
			n.Add(n, bigOf(1))
			thrown, behind, _ := below(from, n.Uint64())
			want := new(big.Int).Add(big.NewInt(c.lo), bigOf(thrown)).Int64()
			x, s, e := dice.Span(from, c.lo, c.hi)
			if x != want || s != behind || e != api.OK {
				t.Errorf("Span(%d, %d, %d) = %d, %d, %d, want %d, %d", from, c.lo, c.hi, x, s, e, want, behind)
			}
			if x < c.lo || x > c.hi {
				t.Errorf("Span(%d, %d, %d) = %d", from, c.lo, c.hi, x)
			}
		}
	}
}

// 2.6
func TestPickRefuses(t *testing.T) {
	heavy := make([]uint64, api.MaxRow+1)
	heavy[0] = 1
	overfull := slices.Repeat([]uint64{most}, api.MaxRow+1)
	for _, c := range []struct {
		what    string
		weights []uint64
		e       api.Errno
	}{
		{"Pick of nil", nil, api.ErrWeights},
		{"Pick of none", []uint64{}, api.ErrWeights},
		{"Pick of one 0", []uint64{0}, api.ErrWeights},
		{"Pick of zeros", make([]uint64, api.MaxRow), api.ErrWeights},
		{"Pick of too many", heavy, api.ErrMany},
		{"Pick of too many zeros", make([]uint64, api.MaxRow+1), api.ErrMany},
		{"Pick of too many too heavy ones", overfull, api.ErrMany},
		{"Pick one above", []uint64{most, 1}, api.ErrWeights},
		{"Pick one above, turned round", []uint64{1, 0, most}, api.ErrWeights},
		{"Pick twice the half", []uint64{1 << 63, 0, 1 << 63}, api.ErrWeights},
		{"Pick round twice", []uint64{most, most, 2, 7}, api.ErrWeights},
		{"Pick as many heavy ones as may be", overfull[:api.MaxRow], api.ErrWeights},
	} {
		i, s, e := dice.Pick(9, c.weights)
		refused(t, c.what, i, s, e, 9, c.e)
	}
}

// 2.6: each number that can be thrown, with its place.
func TestPickPlaces(t *testing.T) {
	weights := []uint64{0, 3, 0, 0, 1, 4, 0}
	for x, want := range []int{1, 1, 1, 4, 5, 5, 5, 5} {
		from := throwing(uint64(x) + 8*12345)
		if i, s, e := dice.Pick(from, weights); i != want || s != jumped(from, 1) || e != api.OK {
			t.Errorf("Pick with %d thrown = %d, %d, %d, want %d", x, i, s, e, want)
		}
	}
	if i, s, e := dice.Pick(0, []uint64{0, 0, 5}); i != 2 || s != numC || e != api.OK {
		t.Errorf("Pick(0, 0 0 5) = %d, %d, %d", i, s, e)
	}
}

// 2.6
func TestPickOfTheMost(t *testing.T) {
	full := make([]uint64, api.MaxRow)
	full[api.MaxRow-1] = 1
	if i, _, e := dice.Pick(4, full); i != api.MaxRow-1 || e != api.OK {
		t.Errorf("Pick of MaxRow weights = %d, %d", i, e)
	}
	weights := []uint64{1 << 63, 1<<63 - 2, 0, 1}
	for _, c := range []struct {
		thrown uint64
		want   int
	}{{1, 0}, {1<<63 - 1, 0}, {1 << 63, 1}, {most - 2, 1}, {most - 1, 3}, {most, 0}} {
		from := throwing(c.thrown)
		if i, s, e := dice.Pick(from, weights); i != c.want || s != jumped(from, 1) || e != api.OK {
			t.Errorf("Pick of 2^64-1 with %d thrown = %d, %d, %d, want %d", c.thrown, i, s, e, c.want)
		}
	}
}

// 2.6: the throw is Below's, with its state, also where a number is thrown again.
func TestPickThrowsAsBelow(t *testing.T) {
	weights := []uint64{1 << 62, 1 << 62, 1}
	again := 0
	for _, from := range states() {
		x, behind, k := below(from, 1<<63+1)
		again += k - 1
		want := int(x >> 62)
		if i, s, e := dice.Pick(from, weights); i != want || s != behind || e != api.OK {
			t.Errorf("Pick(%d) = %d, %d, %d, want %d, %d", from, i, s, e, want, behind)
		}
	}
	if again == 0 {
		t.Errorf("nothing was thrown again")
	}
}

// 2.6, 0.4
func TestPickLeavesTheWeightsAlone(t *testing.T) {
	room := []uint64{3, 0, 9, 77, 78}
	for _, s := range states() {
		dice.Pick(s, room[:3])
	}
	if !sameNumbers(room, []uint64{3, 0, 9, 77, 78}) {
		t.Errorf("the weights became %v", room)
	}
}

// 2.7
func TestShuffleExamples(t *testing.T) {
	if l, s, e := dice.Shuffle(0, 6); !sameNumbers(l, []int{0, 1, 2, 3, 5, 4}) || s != 7076646890315895283 || e != api.OK {
		t.Errorf("Shuffle(0, 6) = %v, %d, %d", l, s, e)
	}
	if l, s, e := dice.Shuffle(9, 1); !sameNumbers(l, []int{0}) || s != 9 || e != api.OK {
		t.Errorf("Shuffle(9, 1) = %v, %d, %d", l, s, e)
	}
	if l, s, e := dice.Shuffle(9, 0); len(l) != 0 || s != 9 || e != api.OK {
		t.Errorf("Shuffle(9, 0) = %v, %d, %d", l, s, e)
	}
}

// 2.7
func TestShuffleRefuses(t *testing.T) {
	for _, n := range []int{-1, -2, api.MaxRow + 1, math.MinInt64, math.MaxInt64} {
		if l, s, e := dice.Shuffle(9, n); l != nil || s != 9 || e != api.ErrMany {
			t.Errorf("Shuffle(9, %d) = %d values, %d, %d", n, len(l), s, e)
		}
	}
}

// 2.7
func TestShuffleThrowsOneBehindTheOther(t *testing.T) {
	for _, n := range []int{2, 3, 6, 50, api.MaxRow} {
		for _, from := range states()[:40] {
			want := make([]int, n)
			for i := range want {
				want[i] = i
			}
			behind := from
			for i := n - 1; i >= 1; i-- {
				var j uint64
				j, behind, _ = below(behind, uint64(i+1))
				kept := want[i]
				want[i] = want[j]
				want[j] = kept
			}
			if l, s, e := dice.Shuffle(from, n); !sameNumbers(l, want) || s != behind || e != api.OK {
				t.Fatalf("Shuffle(%d, %d) = %v, %d, %d, want %v, %d", from, n, l, s, e, want, behind)
			}
		}
	}
}

// 2.7, 0.4
func TestShuffleGivesNewMemory(t *testing.T) {
	a, _, _ := dice.Shuffle(0, 6)
	clear(a[:cap(a)])
	b, _, _ := dice.Shuffle(0, 6)
	clear(a[:cap(a)])
	if !sameNumbers(b, []int{0, 1, 2, 3, 5, 4}) {
		t.Errorf("a list that was handed out has changed a later one: %v", b)
	}
}
