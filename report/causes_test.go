package report_test

import (
	"testing"

	"horizon/api"
	"horizon/report"
	"horizon/seqrun"
)

// causes holds what Links and Chain answer against what they should.
func causes(t *testing.T, what string, p api.Plan, r api.Result, from []int, chain []int, want api.Errno) {
	t.Helper()
	var wanted []api.Link
	for i, x := range from {
		wanted = append(wanted, api.Link{At: i, From: x})
	}
	links, code := report.Links(p, r)
	same(t, what+": links", told(links, code), told(wanted, want))
	l, code := report.Chain(p, r)
	same(t, what+": chain", told(l, code), told(chain, want))
}

// 17.7: a plan that is not valid is refused by its own error, whatever the trace is.
func TestCausesOfNoPlan(t *testing.T) {
	for _, x := range []struct {
		change func(p *api.Plan)
		code   api.Errno
	}{
		{func(p *api.Plan) { p.Kinds = 33 }, api.ErrKinds},
		{func(p *api.Plan) { p.Kinds = 2 }, api.ErrPrograms},
		{func(p *api.Plan) { p.Parts[1].Program = 1 }, api.ErrParts},
		{func(p *api.Plan) { p.Starts[0].Dst = 2 }, api.ErrStarts},
		{func(p *api.Plan) { p.Look = 0 }, api.ErrLook},
		{func(p *api.Plan) { p.Budget = -1 }, api.ErrBudget},
		{func(p *api.Plan) { p.Budget = api.MaxBudget + 1 }, api.ErrBudget},
		{func(p *api.Plan) { p.Fuel = 0 }, api.ErrFuel},
	} {
		p := clockwork(x.change)
		causes(t, "with its trace", p, seqrun.Run(clockwork()), nil, nil, x.code)
		causes(t, "with another", p, events(t, "1.0.0>-1:0=0"), nil, nil, x.code)
		causes(t, "with none", p, api.Result{}, nil, nil, x.code)
	}
}

// 17.7: each prefix of the trace is one; nothing else of the result is looked at.
func TestCausesOfPrefixes(t *testing.T) {
	p := clockwork()
	from := []int{-1, -1, 0, 1, 2, 3}
	chains := [][]int{nil, {0}, {0}, {0, 2}, {0, 2}, {0, 2, 4}, {0, 2, 4}}
	for n := range chains {
		r := api.Result{Kind: -5, Code: 77, Window: 3, States: []api.State{{Sent: 9}}, Trace: seqrun.Prefix(p, n).Trace}
		causes(t, "a prefix", p, r, from[:n], chains[n], api.OK)
	}
}

// 17.7: what is no prefix is refused: an event changed in any field, left out, come twice, one too many; another plan's trace.
func TestCausesOfOtherTraces(t *testing.T) {
	p := clockwork()
	for i := range 6 {
		for _, change := range []func(e *api.Event){
			func(e *api.Event) { e.Key.Time++ },
			func(e *api.Event) { e.Key.Src ^= 1 },
			func(e *api.Event) { e.Key.Seq++ },
			func(e *api.Event) { e.Dst ^= 1 },
			func(e *api.Event) { e.Dst = -1 },
			func(e *api.Event) { e.Kind = 1 },
			func(e *api.Event) { e.Data-- },
		} {
			r := seqrun.Run(p)
			change(&r.Trace[i])
			causes(t, "a changed one", p, r, nil, nil, api.ErrTrace)
		}
		r := seqrun.Run(p)
		r.Trace = append(r.Trace[:i+1], r.Trace[i:]...)
		causes(t, "one twice", p, r, nil, nil, api.ErrTrace)
		if i < 5 {
			r = seqrun.Run(p)
			r.Trace = append(r.Trace[:i], r.Trace[i+1:]...)
			causes(t, "one left out", p, r, nil, nil, api.ErrTrace)
		}
	}
	causes(t, "one more", p, seqrun.Run(clockwork(func(p *api.Plan) { p.End = 16 })), nil, nil, api.ErrTrace)
	causes(t, "beyond the budget", clockwork(func(p *api.Plan) { p.Budget = 5 }), seqrun.Run(p), nil, nil, api.ErrTrace)
	causes(t, "behind a fault", clockwork(func(p *api.Plan) { p.Look = 6 }), seqrun.Run(p), nil, nil, api.ErrTrace)
	causes(t, "of another seed only", clockwork(func(p *api.Plan) { p.Seed = 8 }), seqrun.Run(p), []int{-1, -1, 0, 1, 2, 3}, []int{0, 2, 4}, api.OK)
}

// 17.7, 17.8: handlers that take their fuel to the last instruction send as others do.
func TestCausesOfScarceFuel(t *testing.T) {
	p := clockwork(func(p *api.Plan) { p.Fuel = 9 })
	causes(t, "just enough", p, seqrun.Run(p), []int{-1, -1, 0, 1, 2, 3}, []int{0, 2, 4}, api.OK)
	p.Fuel = 8
	causes(t, "one too little", p, seqrun.Run(p), nil, nil, api.OK)
}

// 17.7, 17.8: plans without events.
func TestCausesOfNothing(t *testing.T) {
	causes(t, "an empty plan", api.Plan{Look: 1, Fuel: 1}, api.Result{}, nil, nil, api.OK)
	causes(t, "an empty plan, an event", api.Plan{Look: 1, Fuel: 1}, events(t, "0.0.0>0:0=0"), nil, nil, api.ErrTrace)
	p := clockwork(func(p *api.Plan) { p.End = 0 })
	causes(t, "no event ahead of the end", p, seqrun.Run(p), nil, nil, api.OK)
}

// 17.7: of the events that one handler sends each has it as its sender, also those from one part at one time; events that are passed over send nothing.
func TestLinksOfMany(t *testing.T) {
	p := scenario(t, `look 2 end 9 kind a, b
type T { on a(x) { send b(1) to t[1] after 2 send b(2) to t[1] after 2 send b(3) to t[0] after 3 if x > 0 { send a(0) to t[1] after 3 } } }
place t[2] : T
start a(1) to t[0] at 0
start b(0) to t[0] at 1
start b(0) to t[1] at 2
`)
	// 0.0.0, then the starts 1.0.1 and 2.1.0; 2.0.2 and 2.0.3 stand ahead of 2.1.0 by their Src; 3.0.4, 3.0.5; then part 1's own: 5.1.1, 5.1.2, 6.1.3.
	r := seqrun.Run(p)
	same(t, "the trace", texts(r.Trace), "0.0.0>0:0=1 1.0.1>0:1=0 2.0.2>1:1=1 2.0.3>1:1=2 2.1.0>1:1=0 3.0.4>0:1=3 3.0.5>1:0=0 5.1.1>1:1=1 5.1.2>1:1=2 6.1.3>0:1=3")
	causes(t, "all", p, r, []int{-1, -1, 0, 0, -1, 0, 0, 6, 6, 6}, []int{0, 2, 3, 4, 6, 7, 8}, api.OK)
}

// 17.8: the sender stands ahead of the nearest event, where both are as deep; the nearest one, where only it is; the first of the deepest ends the chain.
func TestChainTies(t *testing.T) {
	const head = "look 1 end 50 kind k type T { on k(x) { if x > 0 { send k(x - 1) to (me + 1) % 2 after 5 } } } place t[2] : T\n"
	for _, x := range []struct {
		what   string
		starts string
		from   []int
		chain  []int
	}{
		{"sender and nearest are as deep", "start k(1) to t[0] at 0 start k(0) to t[1] at 1", []int{-1, -1, 0}, []int{0, 2}},
		{"the nearest stands behind the sender, and is as deep", "start k(0) to t[1] at 0 start k(1) to t[0] at 1", []int{-1, -1, 1}, []int{1, 2}},
		{"the nearest is deeper", "start k(1) to t[0] at 2 start k(0) to t[1] at 3 start k(0) to t[1] at 4", []int{-1, -1, -1, 0}, []int{1, 2, 3}},
		{"the sender is deeper", "start k(0) to t[0] at 0 start k(1) to t[0] at 1 start k(0) to t[1] at 2", []int{-1, -1, -1, 1}, []int{0, 1, 3}},
		{"two are deepest", "start k(0) to t[1] at 0 start k(0) to t[0] at 0 start k(0) to t[1] at 1 start k(0) to t[0] at 2", []int{-1, -1, -1, -1}, []int{1, 2}},
		{"the first is deepest", "start k(0) to t[1] at 0 start k(0) to t[0] at 1", []int{-1, -1}, []int{0}},
		{"to and fro", "start k(3) to t[0] at 0", []int{-1, 0, 1, 2}, []int{0, 1, 2, 3}},
	} {
		p := scenario(t, head+x.starts)
		causes(t, x.what, p, seqrun.Run(p), x.from, x.chain, api.OK)
	}
}
