package report_test

import (
	"fmt"
	"math"
	"testing"

	"horizon/api"
	"horizon/report"
)

// extremes is the least and the greatest of all numbers.
func extremes() api.Result {
	return api.Result{Trace: []api.Event{
		{Key: api.Key{Time: math.MaxUint64, Src: math.MinInt}, Dst: math.MaxInt, Kind: math.MaxInt},
		{Key: api.Key{Time: math.MaxUint64 - 1, Src: math.MaxInt}, Dst: math.MinInt, Kind: math.MinInt},
		{Key: api.Key{Src: math.MaxInt}, Dst: math.MaxInt, Kind: math.MinInt},
	}}
}

// 17.1: parts that only send, that only get, that do both; times that don't rise; time 0; numbers that no plan has.
func TestTallies(t *testing.T) {
	for _, x := range []struct {
		what string
		r    api.Result
		want []api.Tally
	}{
		{"no trace", api.Result{Kind: api.Done, States: []api.State{{Sent: 3}}}, nil},
		{"to itself", events(t, "4.2.0>2:0=0"), []api.Tally{{Part: 2, Events: 1, Sent: 1, First: 4, Last: 4}}},
		{"to another", events(t, "4.2.0>1:0=0"), []api.Tally{{Part: 1, Events: 1, First: 4, Last: 4}, {Part: 2, Sent: 1}}},
		{"falling", events(t, "9.0.0>0:0=0", "7.0.1>0:0=0", "8.0.2>0:0=0"), []api.Tally{{Part: 0, Events: 3, Sent: 3, First: 7, Last: 9}}},
		{"from time 0", events(t, "0.0.0>0:0=0", "7.0.1>0:0=0"), []api.Tally{{Part: 0, Events: 2, Sent: 2, First: 0, Last: 7}}},
		{"to time 0", events(t, "7.0.1>0:0=0", "0.0.0>0:0=0"), []api.Tally{{Part: 0, Events: 2, Sent: 2, First: 0, Last: 7}}},
		{"one event twice", events(t, "7.1.1>0:0=0", "7.1.1>0:0=0"), []api.Tally{{Part: 0, Events: 2, First: 7, Last: 7}, {Part: 1, Sent: 2}}},
		{"it sends ahead of getting", events(t, "7.1.1>0:0=0", "5.0.0>1:0=0"), []api.Tally{{Part: 0, Events: 1, Sent: 1, First: 7, Last: 7}, {Part: 1, Events: 1, Sent: 1, First: 5, Last: 5}}},
		{"below 0", events(t, "7.-1.1>3:0=0", "5.-9.0>-1:0=0"), []api.Tally{{Part: -9, Sent: 1}, {Part: -1, Events: 1, Sent: 1, First: 5, Last: 5}, {Part: 3, Events: 1, First: 7, Last: 7}}},
		{"extremes", extremes(), []api.Tally{{Part: math.MinInt, Events: 1, Sent: 1, First: math.MaxUint64 - 1, Last: math.MaxUint64 - 1}, {Part: math.MaxInt, Events: 2, Sent: 2, Last: math.MaxUint64}}},
	} {
		same(t, x.what, told(report.Tallies(x.r), 0), told(x.want, 0))
	}
}

// 17.2: by number first, by kind then; kinds that no plan has.
func TestKinds(t *testing.T) {
	for _, x := range []struct {
		what string
		r    api.Result
		want []api.Count
	}{
		{"no trace", api.Result{Kind: api.Cut}, nil},
		{"the frequent one has the greater number", events(t, "1.0.0>0:1=0", "2.0.0>0:5=0", "3.0.0>0:5=0"), []api.Count{{Kind: 5, Events: 2}, {Kind: 1, Events: 1}}},
		{"the frequent one has the smaller number", events(t, "1.0.0>0:5=0", "2.0.0>0:1=0", "3.0.0>0:1=0"), []api.Count{{Kind: 1, Events: 2}, {Kind: 5, Events: 1}}},
		{"equal numbers", events(t, "1.0.0>0:5=0", "2.0.0>0:-3=0", "3.0.0>0:1=0"), []api.Count{{Kind: -3, Events: 1}, {Kind: 1, Events: 1}, {Kind: 5, Events: 1}}},
		{"extremes", extremes(), []api.Count{{Kind: math.MinInt, Events: 2}, {Kind: math.MaxInt, Events: 1}}},
	} {
		same(t, x.what, told(report.Kinds(x.r), 0), told(x.want, 0))
	}
}

// 17.3: widths at their ends, times at their ends, empty buckets; a trace that does not rise.
func TestHistogram(t *testing.T) {
	ends := extremes()
	for _, x := range []struct {
		what  string
		r     api.Result
		width uint64
		want  []api.Bucket
		code  api.Errno
	}{
		{"no trace", api.Result{}, 1, nil, api.OK},
		{"no trace, no width", api.Result{}, 0, nil, api.ErrWidth},
		{"width 1", events(t, "2.0.0>0:0=0", "0.0.0>0:0=0", "2.0.0>0:0=0"), 1, []api.Bucket{{From: 0, Events: 1}, {From: 2, Events: 2}}, api.OK},
		{"the last of a bucket, the first of the next", events(t, "9.0.0>0:0=0", "10.0.0>0:0=0"), 10, []api.Bucket{{From: 0, Events: 1}, {From: 10, Events: 1}}, api.OK},
		{"empty ones between", events(t, "91.0.0>0:0=0", "10.0.0>0:0=0"), 10, []api.Bucket{{From: 10, Events: 1}, {From: 90, Events: 1}}, api.OK},
		{"the greatest width", ends, math.MaxUint64, []api.Bucket{{From: 0, Events: 2}, {From: math.MaxUint64, Events: 1}}, api.OK},
		{"a bucket that ends beyond 64 bits", ends, 1 << 63, []api.Bucket{{From: 0, Events: 1}, {From: 1 << 63, Events: 2}}, api.OK},
		{"the last bucket is cut short", ends, 10, []api.Bucket{{From: 0, Events: 1}, {From: 18446744073709551610, Events: 2}}, api.OK},
		{"width 1 at the end", ends, 1, []api.Bucket{{From: 0, Events: 1}, {From: math.MaxUint64 - 1, Events: 1}, {From: math.MaxUint64, Events: 1}}, api.OK},
	} {
		l, code := report.Histogram(x.r, x.width)
		same(t, x.what, told(l, code), told(x.want, x.code))
	}
}

// 17.4: only the part's own events count, by their places; one rounding each; wrong traces.
func TestMean(t *testing.T) {
	for _, x := range []struct {
		what string
		r    api.Result
		want float64
		code api.Errno
	}{
		{"no trace", api.Result{}, 0, api.ErrNone},
		{"one event", events(t, "4.2.0>0:0=0", "8.0.0>1:0=0"), 0, api.ErrNone},
		{"two events", events(t, "4.2.0>0:0=0", "5.0.0>1:0=0", "9.2.0>0:0=0", "99.2.0>1:0=0"), 5, api.OK},
		{"at one time", events(t, "4.2.0>0:0=0", "4.2.1>0:0=0", "4.2.2>0:0=0"), 0, api.OK},
		{"a half", events(t, "4.2.0>0:0=0", "4.2.1>0:0=0", "5.2.2>0:0=0"), 0.5, api.OK},
		{"a third", events(t, "4.2.0>0:0=0", "4.2.1>0:0=0", "4.2.2>0:0=0", "5.2.2>0:0=0"), 1.0 / 3.0, api.OK},
		{"back again", events(t, "4.2.0>0:0=0", "3.2.1>0:0=0"), 0, api.ErrTrace},
		{"back again between others", events(t, "1.2.0>1:0=0", "4.2.0>0:0=0", "9.2.1>0:0=0", "3.2.1>0:0=0", "9.2.1>1:0=0"), 0, api.ErrTrace},
		{"back only on the way", events(t, "4.2.0>0:0=0", "3.2.1>0:0=0", "99.0.0>0:0=0", "10.2.1>0:0=0"), 2, api.OK},
		{"the others go back", events(t, "4.2.0>1:0=0", "3.2.1>0:0=0", "4.0.0>0:0=0", "1.2.1>1:0=0"), 1, api.OK},
		{"as whole numbers first", events(t, "9007199254740992.0.0>0:0=0", "9007199254740993.0.0>0:0=0"), 1, api.OK},
		{"rounded to 53 bits", events(t, "0.0.0>0:0=0", "9007199254740993.0.0>0:0=0"), 9007199254740992, api.OK},
		{"all of time", events(t, "0.0.0>0:0=0", "5.0.0>0:0=0", "18446744073709551615.0.0>0:0=0"), 9223372036854775808, api.OK},
		{"above 2^63", events(t, "5.0.0>0:0=0", "18446744073709551615.0.0>0:0=0"), 18446744073709551616, api.OK},
	} {
		same(t, x.what, mean(report.Mean(x.r, 0)), mean(x.want, x.code))
	}
	for _, part := range []int{-1, 7, math.MinInt, math.MaxInt} {
		r := api.Result{Trace: []api.Event{{Key: api.Key{Time: 3}, Dst: part}, {}, {Key: api.Key{Time: 10}, Dst: part}}}
		same(t, part, mean(report.Mean(r, part)), mean(7, api.OK))
	}
}

// 17.5: workers and owners at their ends, the order of errors; nothing else of the layout is looked at.
func TestBalance(t *testing.T) {
	none, two := api.Result{}, events(t, "1.0.0>1:0=0", "2.0.0>1:0=0")
	wide := make([]int, api.MaxWorkers)
	wide[63] = 2
	for _, x := range []struct {
		l    api.Layout
		r    api.Result
		want []int
		code api.Errno
	}{
		{api.Layout{Workers: 1}, none, []int{0}, api.OK},
		{api.Layout{Workers: 1, Owner: []int{0, 0, 0}}, two, []int{2}, api.OK},
		{api.Layout{Workers: 64, Owner: []int{0, 63}}, two, wide, api.OK},
		{api.Layout{Workers: 2, Owner: []int{0, 1}, Arena: -1, Box: -7, Undo: 1 << 60}, two, []int{0, 2}, api.OK},
		{api.Layout{Workers: 65, Owner: []int{0, 1}}, two, nil, api.ErrWorkers},
		{api.Layout{Workers: 0, Owner: []int{0, 0}}, two, nil, api.ErrWorkers},
		{api.Layout{Workers: -1, Owner: []int{0, 0}}, two, nil, api.ErrWorkers},
		{api.Layout{Workers: 65, Owner: []int{-1}}, two, nil, api.ErrWorkers},
		{api.Layout{Workers: math.MaxInt, Owner: []int{-1}}, two, nil, api.ErrWorkers},
		{api.Layout{Workers: math.MinInt, Owner: []int{-1}}, two, nil, api.ErrWorkers},
		{api.Layout{Workers: 2, Owner: []int{-1, 0}}, two, nil, api.ErrOwner},
		{api.Layout{Workers: 2, Owner: []int{0, 0, 2}}, two, nil, api.ErrOwner},
		{api.Layout{Workers: 2, Owner: []int{2}}, two, nil, api.ErrOwner},
		{api.Layout{Workers: 2, Owner: []int{math.MinInt}}, none, nil, api.ErrOwner},
		{api.Layout{Workers: 2, Owner: []int{0}}, two, nil, api.ErrTrace},
		{api.Layout{Workers: 2}, two, nil, api.ErrTrace},
		{api.Layout{Workers: 2, Owner: []int{0, 1}}, events(t, "1.0.0>0:0=0", "1.0.0>-1:0=0"), nil, api.ErrTrace},
		{api.Layout{Workers: 2, Owner: []int{0, 1}}, events(t, "1.0.0>0:0=0", "1.0.0>2:0=0"), nil, api.ErrTrace},
		{api.Layout{Workers: 2, Owner: []int{0, 1}}, extremes(), nil, api.ErrTrace},
		{api.Layout{Workers: 2, Owner: []int{0, 1}}, events(t, "1.-9.0>1:0=0", "1.77.0>0:-3=0"), []int{1, 1}, api.OK},
	} {
		l, code := report.Balance(x.l, x.r)
		same(t, x.l, told(l, code), told(x.want, x.code))
	}
}

// 17.5: of a layout more parts than a plan may have is no error here.
func TestBalanceManyParts(t *testing.T) {
	owner := make([]int, 1000)
	owner[999] = 1
	l, code := report.Balance(api.Layout{Workers: 2, Owner: owner}, events(t, "1.0.0>999:0=0", "1.0.0>5:0=0", "1.0.0>999:0=0"))
	same(t, "a thousand", told(l, code), told([]int{1, 2}, api.OK))
}

// 17.6: each field of an event tells; which of the two is shorter doesn't; nothing else of a result is looked at.
func TestDiff(t *testing.T) {
	base := "3.1.4>1:5=9"
	for _, x := range []struct {
		a, b []string
		want int
	}{
		{nil, nil, -1},
		{nil, []string{base}, 0},
		{[]string{base}, []string{base}, -1},
		{[]string{base, base}, []string{base}, 1},
		{[]string{base}, []string{base, base, base}, 1},
		{[]string{base, "2.1.4>1:5=9"}, []string{base, base}, 1},
		{[]string{base, "3.0.4>1:5=9"}, []string{base, base}, 1},
		{[]string{base, "3.1.5>1:5=9"}, []string{base, base}, 1},
		{[]string{base, "3.1.4>0:5=9"}, []string{base, base}, 1},
		{[]string{base, "3.1.4>1:6=9"}, []string{base, base}, 1},
		{[]string{base, "3.1.4>1:5=-9"}, []string{base, base}, 1},
		{[]string{"3.1.4>1:5=0", "1.1.4>1:5=9"}, []string{base, base}, 0},
		{[]string{"3.1.4>1:5=0"}, []string{base, base}, 0},
	} {
		a, b := events(t, x.a...), events(t, x.b...)
		b.Kind, b.Code, b.At, b.Window, b.States = api.Fault, api.FaultFuel, api.Key{Time: 3}, 9, []api.State{{Sent: 8}}
		if n := report.Diff(a, b); n != x.want {
			t.Errorf("of %v and %v: %d, not %d", x.a, x.b, n, x.want)
		}
		if n := report.Diff(b, a); n != x.want {
			t.Errorf("of %v and %v: %d, not %d", x.b, x.a, n, x.want)
		}
	}
}

// 0.5, 17.1, 17.2, 17.3: asked again, with many numbers in the maps, the answers are the same.
func TestAskedAgain(t *testing.T) {
	c := chance(1705)
	var r api.Result
	for range 300 {
		r.Trace = append(r.Trace, api.Event{Key: api.Key{Time: uint64(c.below(900)), Src: c.below(90)}, Dst: c.below(90), Kind: c.below(90)})
	}
	ask := func() string {
		l, code := report.Histogram(r, 7)
		return fmt.Sprint(report.Tallies(r), report.Kinds(r), told(l, code))
	}
	first := ask()
	for range 50 {
		same(t, "asked again", ask(), first)
	}
}
