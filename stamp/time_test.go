package stamp_test

import (
	"math"
	"math/big"
	"testing"

	"horizon/api"
	"horizon/stamp"
)

// 1.1
func TestCompareKeys(t *testing.T) {
	for _, c := range []struct {
		name string
		a, b api.Key
		want int
	}{
		{"the same key", key(5, 2, 9), key(5, 2, 9), 0},
		{"zero keys", api.Key{}, api.Key{}, 0},
		{"time tells first", key(4, 9, 9), key(5, 0, 0), -1},
		{"then the source", key(5, 2, 0), key(5, -1, 9), 1},
		{"then the number", key(5, 2, 3), key(5, 2, 4), -1},
		{"a time has no sign", key(1<<63, 0, 0), key(1<<63-1, 0, 0), 1},
		{"a source has a sign", key(0, -1, 0), key(0, 0, 0), -1},
		{"a number has no sign", key(0, 0, 1<<63), key(0, 0, 1), 1},
		{"far times", key(most, 0, 0), key(0, 0, 0), 1},
		{"far sources", key(0, math.MinInt64, 0), key(0, math.MaxInt64, 0), -1},
		{"far numbers", key(0, 0, 0), key(0, 0, most), -1},
		{"sources that differ in high bits only", key(0, 1<<32, 0), key(0, 0, 0), 1},
	} {
		if got := stamp.Compare(c.a, c.b); got != c.want {
			t.Errorf("%s: Compare(%v, %v) = %d, not %d", c.name, c.a, c.b, got, c.want)
		}
		if got := stamp.Compare(c.b, c.a); got != -c.want {
			t.Errorf("%s: Compare(%v, %v) = %d, not %d", c.name, c.b, c.a, got, -c.want)
		}
	}
}

// 1.1: keys that are listed in their order compare as their places do.
func TestCompareIsTheOrderOfPlaces(t *testing.T) {
	var l []api.Key
	for _, at := range []uint64{0, 1, 1<<63 - 1, 1 << 63, most} {
		for _, src := range []int{math.MinInt64, -1, 0, 1, math.MaxInt64} {
			for _, seq := range []uint64{0, 1, 1<<63 - 1, 1 << 63, most} {
				l = append(l, key(at, src, seq))
			}
		}
	}
	for i, a := range l {
		for j, b := range l {
			want := big.NewInt(int64(i)).Cmp(big.NewInt(int64(j)))
			if got := stamp.Compare(a, b); got != want {
				t.Fatalf("Compare(%v, %v) = %d, not %d", a, b, got, want)
			}
		}
	}
}

func bigSum(a, b uint64) *big.Int {
	x, y := new(big.Int).SetUint64(a), new(big.Int).SetUint64(b)
	return x.Add(x, y)
}

// 1.2
func TestAdd(t *testing.T) {
	for _, c := range []struct {
		t, d, want uint64
		err        api.Errno
	}{
		{3, 4, 7, api.OK},
		{0, 0, 0, api.OK},
		{most, 0, most, api.OK},
		{0, most, most, api.OK},
		{most - 1, 1, most, api.OK},
		{most, 1, 0, api.ErrTime},
		{1, most, 0, api.ErrTime},
		{most, most, 0, api.ErrTime},
		{1 << 63, 1<<63 - 1, most, api.OK},
		{1 << 63, 1 << 63, 0, api.ErrTime},
	} {
		if got, err := stamp.Add(c.t, c.d); got != c.want || err != c.err {
			t.Errorf("Add(%d, %d) = %d, %d, not %d, %d", c.t, c.d, got, err, c.want, c.err)
		}
	}
}

// 1.2
func TestAddAtAllEdges(t *testing.T) {
	for _, a := range edges() {
		for _, d := range edges() {
			sum := bigSum(a, d)
			got, err := stamp.Add(a, d)
			if sum.IsUint64() && (err != api.OK || got != sum.Uint64()) || !sum.IsUint64() && (err != api.ErrTime || got != 0) {
				t.Fatalf("Add(%d, %d) = %d, %d", a, d, got, err)
			}
		}
	}
}

// 1.3
func TestBound(t *testing.T) {
	for _, c := range [][4]uint64{
		{10, 5, 100, 15},
		{94, 5, 100, 99},
		{95, 5, 100, 100},
		{98, 5, 100, 100},
		{100, 5, 100, 100},
		{200, 5, 100, 100},
		{200, 0, 100, 100},
		{7, 0, 100, 7},
		{0, 0, 0, 0},
		{0, most, 7, 7},
		{0, most, most, most},
		{most - 5, 100, most, most},
		{most - 5, 5, most, most},
		{most - 5, 4, most, most - 1},
		{most - 5, 100, most - 1, most - 1},
		{most, most, 3, 3},
		{most, 1, 0, 0},
	} {
		if got := stamp.Bound(c[0], c[1], c[2]); got != c[3] {
			t.Errorf("Bound(%d, %d, %d) = %d, not %d", c[0], c[1], c[2], got, c[3])
		}
	}
}

// 1.3
func TestBoundAtAllEdges(t *testing.T) {
	for _, low := range edges() {
		for _, look := range edges() {
			for _, end := range edges() {
				want := end
				if sum := bigSum(low, look); sum.Cmp(new(big.Int).SetUint64(end)) < 0 {
					want = sum.Uint64()
				}
				if got := stamp.Bound(low, look, end); got != want {
					t.Fatalf("Bound(%d, %d, %d) = %d, not %d", low, look, end, got, want)
				}
			}
		}
	}
}

func wantClock(t *testing.T, c *stamp.Clock, now uint64, err api.Errno) {
	t.Helper()
	for range 2 { // asking changes nothing
		if c.Now() != now || c.Err() != err {
			t.Errorf("the clock is at %d with the error %d, not at %d with %d", c.Now(), c.Err(), now, err)
		}
	}
}

func wantAdvance(t *testing.T, c *stamp.Clock, d uint64, err api.Errno) {
	t.Helper()
	if got := c.Advance(d); got != err {
		t.Errorf("Advance(%d) = %d, not %d", d, got, err)
	}
}

// 1.4
func TestClockGoesOn(t *testing.T) {
	c := stamp.NewClock(7)
	wantClock(t, c, 7, api.OK)
	wantAdvance(t, c, 0, api.OK)
	wantClock(t, c, 7, api.OK)
	wantAdvance(t, c, 5, api.OK)
	wantAdvance(t, c, 1, api.OK)
	wantClock(t, c, 13, api.OK)
	wantAdvance(t, c, most-13, api.OK)
	wantClock(t, c, most, api.OK)
	wantAdvance(t, c, 0, api.OK)
	wantClock(t, c, most, api.OK)
	wantAdvance(t, c, 1, api.ErrTime)
	wantClock(t, c, most, api.ErrTime)
}

// 1.4
func TestClockStaysWrong(t *testing.T) {
	c := stamp.NewClock(most - 1)
	wantAdvance(t, c, 2, api.ErrTime)
	wantClock(t, c, most-1, api.ErrTime)
	for _, d := range []uint64{0, 1, 2, most} {
		wantAdvance(t, c, d, api.ErrTime)
		wantClock(t, c, most-1, api.ErrTime)
	}
}

// 1.4
func TestNewClockAtTheEnds(t *testing.T) {
	for _, at := range []uint64{0, 1 << 63, most} {
		wantClock(t, stamp.NewClock(at), at, api.OK)
	}
}

// 1.4
func TestClocksShareNothing(t *testing.T) {
	a, b := stamp.NewClock(most), stamp.NewClock(most)
	wantAdvance(t, a, 1, api.ErrTime)
	wantClock(t, b, most, api.OK)
	c := stamp.NewClock(3)
	wantAdvance(t, c, 4, api.OK)
	wantAdvance(t, b, 0, api.OK)
	wantClock(t, a, most, api.ErrTime)
	wantClock(t, c, 7, api.OK)
}
