package journal_test

import (
	"math"
	"testing"

	"horizon/api"
	"horizon/journal"
)

// 16.5: the bytes of two plans, written out.
func TestDigestBytes(t *testing.T) {
	want := sum([]byte{
		2,                // Kinds
		2, 0, 0, 0, 2, 1, // a program: no words, locals, code; the entry -1
		2, 0, 0, // a part
		2, 3, 0, 0, 0, // a start at 3, unsigned
		0, 1, 10, // Seed, Look and End, unsigned
		10, 10, // Budget and Fuel
	})
	if got := journal.Digest(small()); got != want {
		t.Errorf("the digest is %d, not %d", got, want)
	}
	if got := journal.Digest(api.Plan{}); got != sum(make([]byte, 9)) {
		t.Errorf("the digest of the zero plan is %d", got)
	}
}

// wild is a plan that nobody can run, with numbers at all edges.
func wild() api.Plan {
	return api.Plan{
		Kinds: math.MinInt,
		Programs: []api.Program{
			{Words: -1, Locals: math.MaxInt, Code: []api.Instr{{Op: -7, A: math.MinInt64, B: math.MaxInt64}, {Op: 1 << 40}}, Entry: []int{-2, 64, math.MinInt}},
			{},
		},
		Parts:  []api.Part{{Program: -5, Words: []int64{math.MinInt64, -1, 0, 63, 64}}, {Words: nil}, {Words: []int64{}}},
		Starts: []api.Start{{Time: math.MaxUint64, Dst: -1, Kind: -2, Data: math.MinInt64}, {Time: 128}},
		Seed:   math.MaxUint64, Look: 1 << 63, End: 127, Budget: math.MinInt, Fuel: math.MaxInt,
	}
}

// 16.5: a digest is told of any plan; each of its numbers has its place in it.
func TestDigestOfAnyPlan(t *testing.T) {
	changes := []func(p *api.Plan){
		func(p *api.Plan) {},
		func(p *api.Plan) { p.Kinds++ },
		func(p *api.Plan) { p.Programs[0].Words++ },
		func(p *api.Plan) { p.Programs[0].Locals-- },
		func(p *api.Plan) { p.Programs[0].Code[1].Op++ },
		func(p *api.Plan) { p.Programs[0].Code[1].A-- },
		func(p *api.Plan) { p.Programs[0].Code[1].B-- },
		func(p *api.Plan) { p.Programs[0].Code = p.Programs[0].Code[:1] },
		func(p *api.Plan) { p.Programs[0].Entry[2]++ },
		func(p *api.Plan) { p.Programs[0].Entry = p.Programs[0].Entry[:2] },
		func(p *api.Plan) { p.Programs = p.Programs[:1] },
		func(p *api.Plan) { p.Parts[0].Program++ },
		func(p *api.Plan) { p.Parts[0].Words[4]++ },
		func(p *api.Plan) { p.Parts[0].Words = p.Parts[0].Words[:4] },
		func(p *api.Plan) { p.Parts = p.Parts[:2] },
		func(p *api.Plan) { p.Starts[1].Time-- },
		func(p *api.Plan) { p.Starts[1].Dst-- },
		func(p *api.Plan) { p.Starts[1].Kind-- },
		func(p *api.Plan) { p.Starts[1].Data-- },
		func(p *api.Plan) { p.Starts = p.Starts[:1] },
		func(p *api.Plan) { p.Seed-- },
		func(p *api.Plan) { p.Look-- },
		func(p *api.Plan) { p.End++ },
		func(p *api.Plan) { p.Budget++ },
		func(p *api.Plan) { p.Fuel-- },
	}
	seen := map[uint32]int{}
	for i, change := range changes {
		p := wild()
		change(&p)
		got := journal.Digest(p)
		if want := slowDigest(p); got != want {
			t.Errorf("change %d: the digest is %d, not %d", i, got, want)
		}
		if j, twice := seen[got]; twice {
			t.Errorf("the changes %d and %d are not to be seen", i, j)
		}
		seen[got] = i
	}
}

// 16.5: thrown plans.
func TestDigestThrown(t *testing.T) {
	m := maker{chance: 165}
	for range 300 {
		if p := m.plan(t); journal.Digest(p) != slowDigest(p) {
			t.Fatalf("the digest of %+v is %d, not %d", p, journal.Digest(p), slowDigest(p))
		}
	}
	for _, p := range wrongPlans() {
		if journal.Digest(p) != slowDigest(p) {
			t.Errorf("the digest of %+v is %d", p, journal.Digest(p))
		}
	}
}
