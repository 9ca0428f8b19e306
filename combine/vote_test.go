package combine_test

import (
	"math"
	"testing"

	"horizon/api"
	"horizon/combine"
)

// 10.9, the chapter's examples.
func TestLeastExamples(t *testing.T) {
	for _, x := range []struct{ a, b, want api.Vote }{
		{api.Vote{Low: 5}, api.Vote{Low: 9, Any: true, Count: 2}, api.Vote{Low: 9, Any: true, Count: 2}},
		{
			api.Vote{Fault: true, At: api.Key{Time: 7, Src: 1}, Code: 203, Count: -1},
			api.Vote{Fault: true, At: api.Key{Time: 7, Seq: 9}, Code: 200, Bad: true},
			api.Vote{Bad: true, Fault: true, At: api.Key{Time: 7, Seq: 9}, Code: 200, Count: -1},
		},
		{api.Vote{}, api.Vote{}, api.Vote{}},
		{api.Vote{Low: 1, At: api.Key{Time: 1, Src: 2, Seq: 3}, Code: 200}, api.Vote{Low: 2, At: api.Key{Time: 4}, Code: 201}, api.Vote{}},
		{api.Vote{Count: math.MaxInt}, api.Vote{Count: 1}, api.Vote{Count: math.MinInt}},
	} {
		if v := combine.Least(x.a, x.b); v != x.want {
			t.Errorf("Least(%+v, %+v) is %+v, not %+v", x.a, x.b, v, x.want)
		}
	}
}

// votes are all votes of some numbers, keys and faults; what is not looked at is there too.
func votes() (l []api.Vote) {
	keys := []api.Key{{}, {Time: 5, Src: 1, Seq: 7}, {Time: 5, Src: -1, Seq: 9}, {Time: 5, Src: 1, Seq: math.MaxUint64}, {Time: math.MaxUint64, Src: math.MinInt}}
	for flags := range 8 {
		for _, low := range []uint64{0, 5, math.MaxUint64} {
			for _, at := range keys {
				for _, code := range []api.Errno{api.OK, 200, 203} {
					for _, count := range []int{math.MinInt, 3, math.MaxInt} {
						l = append(l, api.Vote{Low: low, Any: flags&1 > 0, Bad: flags&2 > 0, Fault: flags&4 > 0, At: at, Code: code, Count: count})
					}
				}
			}
		}
	}
	return l
}

// 10.9: any two votes of these.
func TestLeastOfAllPairs(t *testing.T) {
	l := votes()
	for _, a := range l {
		for _, b := range l {
			if v, want := combine.Least(a, b), slowLeast(a, b); v != want {
				t.Fatalf("Least(%+v, %+v) is %+v, not %+v", a, b, v, want)
			}
		}
	}
}

// 10.9: of keys that are thrown near one another, the smaller one by layer 1's order; of equal ones that of the first vote.
func TestLeastOfThrownKeys(t *testing.T) {
	c := chance(109)
	equal := 0
	for range 200000 {
		var v [2]api.Vote
		for i := range v {
			at := api.Key{Time: c.next() >> 62 << 61, Src: c.below(4) - 2, Seq: c.next() >> 62 << 61}
			v[i] = api.Vote{Fault: c.below(8) > 0, At: at, Code: api.Errno(200 + i), Any: c.below(3) > 0, Low: c.next() >> uint(c.below(64)), Count: int(c.next())}
		}
		if v[0].At == v[1].At {
			equal++
		}
		if got, want := combine.Least(v[0], v[1]), slowLeast(v[0], v[1]); got != want {
			t.Fatalf("Least(%+v, %+v) is %+v, not %+v", v[0], v[1], got, want)
		}
	}
	if equal < 1000 {
		t.Errorf("only %d times were the keys equal", equal)
	}
}

// 10.9: Least is associative.
func TestLeastIsAssociative(t *testing.T) {
	c := chance(9)
	l := votes()
	for range 300000 {
		x, y, z := pick(&c, l), pick(&c, l), pick(&c, l)
		left, right := combine.Least(combine.Least(x, y), z), combine.Least(x, combine.Least(y, z))
		if left != right || left != slowLeast(x, y, z) {
			t.Fatalf("%+v, %+v, %+v: %+v, and %+v", x, y, z, left, right)
		}
	}
}

// 10.9, 10.3: a net of votes agrees on what all votes say, at any number of workers that have something to join.
func TestNetOfVotes(t *testing.T) {
	c := chance(99)
	l := votes()
	for workers := 2; workers <= 64; workers++ {
		n := made(t, workers, combine.Least)
		for range 3 {
			values := make([]api.Vote, workers)
			for w := range values {
				values[w] = pick(&c, l)
			}
			played(n, values...)
			for w := range workers {
				if v, code := n.Value(w); v != slowLeast(inTreeOrder(values, 0)...) || code != api.OK {
					t.Fatalf("worker %d of %d: %+v, %d", w, workers, v, code)
				}
			}
		}
	}
}

// inTreeOrder is each worker's ahead of all that lies below its first child, and that ahead of what lies below its second one.
func inTreeOrder[T any](values []T, w int) (l []T) {
	if w < len(values) {
		l = append(l, values[w])
		l = append(l, inTreeOrder(values, 2*w+1)...)
		l = append(l, inTreeOrder(values, 2*w+2)...)
	}
	return l
}
