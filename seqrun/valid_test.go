package seqrun_test

import (
	"math"
	"slices"
	"testing"

	"horizon/api"
	"horizon/seqrun"
)

// grown is a list with its first one so often again that there are n.
func grown[T any](l []T, n int) []T {
	l = slices.Clone(l)
	for len(l) < n {
		l = append(l, l[0])
	}
	return l
}

// wrong is a change of Q, and what Valid answers then.
type wrong struct {
	name   string
	code   api.Errno
	change func(p *api.Plan)
}

// wrongs are changes after which Q may not be run, in the order in which Valid tells them; they may be made together.
func wrongs() []wrong {
	return []wrong{
		{"33 kinds", api.ErrKinds, func(p *api.Plan) { p.Kinds = 33 }},
		{"-1 kinds", api.ErrKinds, func(p *api.Plan) { p.Kinds = -1 }},
		{"least kinds", api.ErrKinds, func(p *api.Plan) { p.Kinds = math.MinInt }},
		{"most kinds", api.ErrKinds, func(p *api.Plan) { p.Kinds = math.MaxInt }},
		{"two entries", api.ErrPrograms, func(p *api.Plan) { p.Programs[0].Entry = []int{0, 0} }},
		{"no entry", api.ErrPrograms, func(p *api.Plan) { p.Programs[0].Entry = nil }},
		{"17 programs", api.ErrPrograms, func(p *api.Plan) { p.Programs = grown(p.Programs, 17) }},
		{"words of a program", api.ErrPrograms, func(p *api.Plan) { p.Programs[0].Words = 65 }},
		{"no stop", api.ErrPrograms, func(p *api.Plan) { p.Programs[0].Code[8].Op = api.IData }},
		{"a last program", api.ErrPrograms, func(p *api.Plan) {
			p.Programs = append(p.Programs, api.Program{Entry: []int{0}})
		}},
		{"65 parts", api.ErrParts, func(p *api.Plan) { p.Parts = grown(p.Parts, 65) }},
		{"no such program", api.ErrParts, func(p *api.Plan) { p.Parts[1].Program = len(p.Programs) }},
		{"program -1", api.ErrParts, func(p *api.Plan) { p.Parts[0].Program = -1 }},
		{"program least", api.ErrParts, func(p *api.Plan) { p.Parts[0].Program = math.MinInt }},
		{"program most", api.ErrParts, func(p *api.Plan) { p.Parts[1].Program = math.MaxInt }},
		{"no words", api.ErrParts, func(p *api.Plan) { p.Parts[0].Words = nil }},
		{"two words", api.ErrParts, func(p *api.Plan) { p.Parts[1].Words = []int64{1, 2} }},
		{"a third part of the program 1", api.ErrParts, func(p *api.Plan) {
			p.Parts = append(p.Parts, api.Part{Program: len(p.Programs), Words: []int64{1}})
		}},
		{"257 starts", api.ErrStarts, func(p *api.Plan) { p.Starts = grown(p.Starts, 257) }},
		{"start to no part", api.ErrStarts, func(p *api.Plan) { p.Starts[1].Dst = len(p.Parts) }},
		{"start to -1", api.ErrStarts, func(p *api.Plan) { p.Starts[0].Dst = -1 }},
		{"start to most", api.ErrStarts, func(p *api.Plan) { p.Starts[0].Dst = math.MaxInt }},
		{"start of no kind", api.ErrStarts, func(p *api.Plan) { p.Starts[1].Kind = 1 }},
		{"start of kind -1", api.ErrStarts, func(p *api.Plan) { p.Starts[0].Kind = -1 }},
		{"start of kind least", api.ErrStarts, func(p *api.Plan) { p.Starts[1].Kind = math.MinInt }},
		{"a start from the end on", api.ErrStarts, func(p *api.Plan) {
			p.Starts = append(p.Starts, api.Start{Time: most, Dst: len(p.Parts)})
		}},
		{"no look", api.ErrLook, func(p *api.Plan) { p.Look = 0 }},
		{"budget -1", api.ErrBudget, func(p *api.Plan) { p.Budget = -1 }},
		{"budget 4097", api.ErrBudget, func(p *api.Plan) { p.Budget = 4097 }},
		{"budget most", api.ErrBudget, func(p *api.Plan) { p.Budget = math.MaxInt }},
		{"fuel 0", api.ErrFuel, func(p *api.Plan) { p.Fuel = 0 }},
		{"fuel -1", api.ErrFuel, func(p *api.Plan) { p.Fuel = -1 }},
		{"fuel 4097", api.ErrFuel, func(p *api.Plan) { p.Fuel = 4097 }},
		{"fuel least", api.ErrFuel, func(p *api.Plan) { p.Fuel = math.MinInt }},
	}
}

// wantRefused holds every call that takes a plan against what it must answer to one that is not valid.
func wantRefused(t *testing.T, what string, p api.Plan, code api.Errno) {
	t.Helper()
	if c := seqrun.Valid(p); c != code {
		t.Errorf("%s: Valid is %d, not %d", what, c, code)
	}
	if at, c := seqrun.First(p); c != code || at.States != nil || at.Pending != nil || at.Trace != nil {
		t.Errorf("%s: First is %v, %d, not %d", what, at, c, code)
	}
	for _, at := range []api.Point{{}, first(t, clock())} {
		if s, c := seqrun.Open(p, at); c != code || s != nil {
			t.Errorf("%s: Open is %v, %d, not %d", what, s, c, code)
		}
	}
	runs := []api.Result{seqrun.Run(p)}
	for _, n := range []int{math.MinInt, -5, -1, 0, 1, 3, 4096, math.MaxInt} {
		runs = append(runs, seqrun.Prefix(p, n))
	}
	for _, r := range runs {
		sameResult(t, what, r, api.Result{Kind: api.Rejected, Code: code})
	}
	for place, e := range seqrun.Each(p) {
		t.Errorf("%s: Each gives %d, %v", what, place, e)
	}
	if l := seqrun.Windows(p); len(l) != 0 {
		t.Errorf("%s: Windows is %v", what, l)
	}
}

// 12.1, 12.2, 12.3, 12.6, 12.7, 12.8: what may not be run is refused by every call, with Valid's error, and nothing beside it.
func TestWrongPlans(t *testing.T) {
	for _, w := range wrongs() {
		wantRefused(t, w.name, with(w.change), w.code)
	}
	wantRefused(t, "2 kinds", with(func(p *api.Plan) { p.Kinds = 2 }), api.ErrPrograms)
	wantRefused(t, "no kinds", with(func(p *api.Plan) { p.Kinds = 0 }), api.ErrPrograms)
	wantRefused(t, "the zero plan", api.Plan{}, api.ErrLook)
	wantRefused(t, "look 0 and 33 kinds", with(func(p *api.Plan) { p.Look, p.Kinds = 0, 33 }), api.ErrKinds)
	wantRefused(t, "a start where there is no part", api.Plan{Kinds: 1, Starts: []api.Start{{}}, Look: 1, Fuel: 1}, api.ErrStarts)
	wantRefused(t, "a part where there is no program", api.Plan{Parts: []api.Part{{}}, Look: 1, Fuel: 1}, api.ErrParts)
}

// 12.1, 0.2: of two things that are wrong the one that the chapter names first is told.
func TestWrongTwice(t *testing.T) {
	all := wrongs()
	for i, early := range all {
		for _, late := range all[i+1:] {
			for _, order := range [][]wrong{{early, late}, {late, early}} {
				p := clock()
				order[0].change(&p)
				order[1].change(&p)
				if code := seqrun.Valid(p); code != early.code {
					t.Errorf("%s and %s: Valid is %d, not %d", early.name, late.name, code, early.code)
				}
			}
		}
	}
}

// 12.1: at each limit a plan may still be run.
func TestGoodPlans(t *testing.T) {
	idle := api.Program{Entry: []int{-1}}
	for name, p := range map[string]api.Plan{
		"Q":                  clock(),
		"nothing":            {Look: 1, Fuel: 1},
		"kinds alone":        {Kinds: 32, Look: 1, Fuel: 1},
		"a program alone":    {Kinds: 1, Programs: []api.Program{idle}, Look: 1, Fuel: 1},
		"no kinds, one part": {Programs: []api.Program{{}}, Parts: []api.Part{{}}, Look: 1, Fuel: 1},
		"16 programs":        with(func(p *api.Plan) { p.Programs = grown(p.Programs, 16); p.Parts[0].Program = 15 }),
		"64 parts":           with(func(p *api.Plan) { p.Parts = grown(p.Parts, 64); p.Starts[0].Dst = 63 }),
		"256 starts":         with(func(p *api.Plan) { p.Starts = grown(p.Starts, 256) }),
		"the largest look":   with(func(p *api.Plan) { p.Look = most }),
		"the largest end":    with(func(p *api.Plan) { p.End = most }),
		"no end":             with(func(p *api.Plan) { p.End = 0 }),
		"the largest seed":   with(func(p *api.Plan) { p.Seed = most }),
		"no budget":          with(func(p *api.Plan) { p.Budget = 0 }),
		"budget 4096":        with(func(p *api.Plan) { p.Budget = 4096 }),
		"fuel 1":             with(func(p *api.Plan) { p.Fuel = 1 }),
		"fuel 4096":          with(func(p *api.Plan) { p.Fuel = 4096 }),
		"late starts":        with(func(p *api.Plan) { p.Starts[0].Time, p.Starts[1].Time = most, 14 }),
		"all 32 kinds": with(func(p *api.Plan) {
			p.Kinds, p.Programs[0].Entry, p.Starts[0].Kind = 32, make([]int, 32), 31
		}),
		"64 words": with(func(p *api.Plan) {
			p.Programs[0].Words = 64
			p.Parts = []api.Part{{Words: make([]int64, 64)}, {Words: make([]int64, 64)}}
		}),
	} {
		if code := seqrun.Valid(p); code != api.OK {
			t.Errorf("%s: Valid is %d", name, code)
		}
		samePoint(t, name, first(t, p), slowFirst(p))
		sameResult(t, name, seqrun.Run(p), slowRun(p))
	}
}

// 12.1: Valid, and every call that asks it, tells of thrown plans of which something was changed what the words say.
func TestThrownWrongs(t *testing.T) {
	m := maker{chance: 121}
	numbers := []int{math.MinInt, -1, 0, 1, 2, 3, 4, 32, 33, 64, 4096, 4097, math.MaxInt}
	codes := map[api.Errno]int{}
	for range 4000 {
		p := m.plan(t)
		for range 1 + m.below(2) {
			n := pick(&m.chance, numbers)
			switch m.below(9) {
			case 0:
				p.Kinds = n
			case 1:
				p.Look = uint64(n)
			case 2:
				p.Budget = n
			case 3:
				p.Fuel = n
			case 4:
				if i := len(p.Programs); i > 0 {
					p.Programs[m.below(i)].Words = n
				}
			case 5:
				if i := len(p.Parts); i > 0 {
					p.Parts[m.below(i)].Program = n
				}
			case 6:
				if i := len(p.Starts); i > 0 {
					p.Starts[m.below(i)].Dst = n
				}
			case 7:
				if i := len(p.Starts); i > 0 {
					p.Starts[m.below(i)].Kind = n
				}
			case 8:
				if i := len(p.Parts); i > 0 {
					p.Parts[m.below(i)].Words = make([]int64, m.below(4))
				}
			}
		}
		want := slowValid(p)
		codes[want]++
		if code := seqrun.Valid(p); code != want {
			t.Fatalf("Valid of %+v is %d, not %d", p, code, want)
		}
		if r := seqrun.Run(p); (r.Kind == api.Rejected) != (want != api.OK) {
			t.Fatalf("Run of %+v is %v", p, r)
		}
	}
	for _, code := range []api.Errno{api.OK, api.ErrKinds, api.ErrPrograms, api.ErrParts, api.ErrStarts, api.ErrLook, api.ErrBudget, api.ErrFuel} {
		if codes[code] < 40 {
			t.Errorf("Valid is %d only %d times", code, codes[code])
		}
	}
}
