package report_test

import (
	"slices"
	"strconv"
	"testing"

	"horizon/api"
	"horizon/dice"
	"horizon/kernel"
	"horizon/report"
	"horizon/seqrun"
)

// 17.1, 17.2: example 1.
func TestCountsExample(t *testing.T) {
	r := seqrun.Run(clockwork())
	same(t, "Tallies", told(report.Tallies(r), 0), told([]api.Tally{{Part: 0, Events: 3, Sent: 3, First: 0, Last: 10}, {Part: 1, Events: 3, Sent: 3, First: 3, Last: 13}}, 0))
	same(t, "Kinds", told(report.Kinds(r), 0), told([]api.Count{{Kind: 0, Events: 6}}, 0))
}

// 17.3: example 2.
func TestHistogramExample(t *testing.T) {
	r := seqrun.Run(clockwork())
	for _, x := range []struct {
		width uint64
		want  []api.Bucket
		code  api.Errno
	}{
		{5, []api.Bucket{{From: 0, Events: 2}, {From: 5, Events: 2}, {From: 10, Events: 2}}, api.OK},
		{4, []api.Bucket{{From: 0, Events: 2}, {From: 4, Events: 1}, {From: 8, Events: 2}, {From: 12, Events: 1}}, api.OK},
		{0, nil, api.ErrWidth},
	} {
		l, code := report.Histogram(r, x.width)
		same(t, x.width, told(l, code), told(x.want, x.code))
	}
}

// 17.4: example 3.
func TestMeanExample(t *testing.T) {
	r := seqrun.Run(clockwork())
	same(t, "part 0", mean(report.Mean(r, 0)), mean(5, api.OK))
	same(t, "part 2", mean(report.Mean(r, 2)), mean(0, api.ErrNone))
	r.Trace[4].Key.Time = 12
	same(t, "part 0, at 12", mean(report.Mean(r, 0)), mean(6, api.OK))
}

// 17.7, 17.8: examples 4 and 5.
func TestCausesExample(t *testing.T) {
	p := clockwork()
	r := seqrun.Run(p)
	whole := []api.Link{{At: 0, From: -1}, {At: 1, From: -1}, {At: 2, From: 0}, {At: 3, From: 1}, {At: 4, From: 2}, {At: 5, From: 3}}
	turned := seqrun.Run(p)
	slices.Reverse(turned.Trace)
	for _, x := range []struct {
		what  string
		r     api.Result
		links []api.Link
		chain []int
		code  api.Errno
	}{
		{"all", r, whole, []int{0, 2, 4}, api.OK},
		{"turned round", turned, nil, nil, api.ErrTrace},
		{"the first two", seqrun.Prefix(p, 2), whole[:2], []int{0}, api.OK},
	} {
		links, code := report.Links(p, x.r)
		same(t, x.what, told(links, code), told(x.links, x.code))
		chain, code := report.Chain(p, x.r)
		same(t, x.what, told(chain, code), told(x.chain, x.code))
	}
}

// 17.5: example 6.
func TestBalanceExample(t *testing.T) {
	r := seqrun.Run(clockwork())
	for _, x := range []struct {
		l    api.Layout
		want []int
		code api.Errno
	}{
		{api.Layout{Workers: 2, Owner: []int{0, 1}}, []int{3, 3}, api.OK},
		{api.Layout{Workers: 3, Owner: []int{2, 2}}, []int{0, 0, 6}, api.OK},
		{api.Layout{Workers: 2, Owner: []int{0}}, nil, api.ErrTrace},
		{api.Layout{Workers: 2, Owner: []int{0, 2}}, nil, api.ErrOwner},
	} {
		l, code := report.Balance(x.l, r)
		same(t, x.l, told(l, code), told(x.want, x.code))
	}
}

// 17.6: example 7.
func TestDiffExample(t *testing.T) {
	p := clockwork()
	if n := report.Diff(seqrun.Run(p), seqrun.Run(p)); n != -1 {
		t.Errorf("of one trace: %d", n)
	}
	if n := report.Diff(seqrun.Run(p), seqrun.Prefix(p, 4)); n != 4 {
		t.Errorf("of a trace and its first four: %d", n)
	}
}

// 17.9: examples 8 and 9.
func TestTextExample(t *testing.T) {
	seed := strconv.FormatUint(dice.Seed(7, 1), 10)
	same(t, "one event", report.Text(seqrun.Prefix(clockwork(), 1)), "cut\nevents 1\npart 0: 1 dice 7955263204828808627 sent 2\npart 1: 10 dice "+seed+" sent 1\n0.0.0>0:0=1\n")
	same(t, "nothing", report.Text(api.Result{}), "result 0\nevents 0\n")
}

// 17.1, 17.2, 17.3, 17.5: the shop, as DOC.md's example 3 has it.
func TestShop(t *testing.T) {
	p := scenario(t, shop)
	r := seqrun.Run(p)
	same(t, "Kinds", told(report.Kinds(r), 0), told([]api.Count{{Kind: 0, Events: 27}, {Kind: 1, Events: 25}}, 0))
	same(t, "Tallies", told(report.Tallies(r), 0), told([]api.Tally{
		{Part: 0, Events: 13, Sent: 13, First: 0, Last: 199},
		{Part: 1, Events: 12, Sent: 12, First: 18, Last: 175},
		{Part: 2, Events: 14, Sent: 15, First: 4, Last: 189},
		{Part: 3, Events: 13, Sent: 12, First: 24, Last: 195},
	}, 0))
	l, code := report.Histogram(r, 50)
	same(t, "Histogram", told(l, code), told([]api.Bucket{{From: 0, Events: 13}, {From: 50, Events: 12}, {From: 100, Events: 13}, {From: 150, Events: 14}}, api.OK))
	layout, code := kernel.Spread(p, 2, 1)
	if code != api.OK {
		t.Fatalf("Spread is %d", code)
	}
	shares, code := report.Balance(layout, r)
	same(t, "Balance", told(shares, code), told([]int{27, 25}, api.OK))
}

// 17.8: the shop with a budget of 5, as DOC.md's example 4 has it.
func TestShopChain(t *testing.T) {
	p := scenario(t, shop)
	p.Budget = 5
	chain, code := report.Chain(p, seqrun.Run(p))
	same(t, "Chain", told(chain, code), told([]int{0, 2, 3}, api.OK))
}
