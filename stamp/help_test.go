package stamp_test

import (
	"math"

	"horizon/api"
)

const most = math.MaxUint64

func key(t uint64, src int, seq uint64) api.Key { return api.Key{Time: t, Src: src, Seq: seq} }

func event(t uint64, src int, seq uint64, dst, kind int, data int64) api.Event {
	return api.Event{Key: key(t, src, seq), Dst: dst, Kind: kind, Data: data}
}

// thrown is a row of numbers that look thrown and are the same each time.
type thrown uint64

func (r *thrown) next() uint64 {
	*r = *r*6364136223846793005 + 1442695040888963407
	x := uint64(*r)
	return x ^ x>>29
}

func (r *thrown) below(n int) int { return int(r.next() >> 33 % uint64(n)) }

// wide is a number of any size: as often a small one as a great one.
func (r *thrown) wide() uint64 { return r.next() >> r.below(64) }

func (r *thrown) event() api.Event {
	return event(r.wide(), int(r.wide()), r.wide(), -int(r.wide()), int(r.wide()), -int64(r.wide()))
}

func (r *thrown) events(n int) []api.Event {
	l := make([]api.Event, n)
	for i := range l {
		l[i] = r.event()
	}
	return l
}

// edges are the numbers without sign at which something changes: the ends of what 64 bits hold, and where one more byte is needed.
func edges() []uint64 {
	l := []uint64{0, 1, 2, 3, 63, 64, 65, most - 2, most - 1, most, 1<<63 - 1, 1 << 63, 1<<63 + 1}
	for k := 1; k < 10; k++ {
		l = append(l, 1<<(7*k)-1, 1<<(7*k), 1<<(7*k)+1)
	}
	return l
}

// signedEdges are the same for numbers with sign.
func signedEdges() []int64 {
	l := []int64{math.MinInt64, math.MinInt64 + 1, math.MaxInt64 - 1}
	for _, n := range edges() {
		l = append(l, int64(n), -int64(n), int64(n>>1), -int64(n>>1)-1)
	}
	return l
}
