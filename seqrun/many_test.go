package seqrun_test

import (
	"runtime"
	"slices"
	"strings"
	"testing"

	"horizon/api"
	"horizon/seqrun"
	"horizon/stamp"
)

// flood is a plan of which each handler sends 16 events, to times that a die throws: 256 starts, the largest budget.
func flood(t *testing.T) api.Plan {
	t.Helper()
	g := program(t, "entry 0\n"+strings.Repeat("data\npush 3\nroll\npush 5000\nroll\npush 1\nadd\nsend 0\n", 16)+"stop")
	p := api.Plan{Kinds: 1, Programs: []api.Program{g}, Parts: make([]api.Part, 3), Look: 1, End: most, Budget: api.MaxBudget, Fuel: api.MaxFuel}
	for i := range api.MaxStarts {
		p.Starts = append(p.Starts, api.Start{Time: uint64(i * 7 % 256), Dst: i % 3})
	}
	return p
}

// 12.4, 12.9: as many starts, steps and events sent as can be: all of them find room, and come out in order.
func TestMostEvents(t *testing.T) {
	p := flood(t)
	s := opened(t, p, first(t, p))
	l := toEnd(s)
	at := s.Point()
	if len(l) != api.MaxBudget || !slices.Equal(at.Trace, l) || !stamp.Rising(l) {
		t.Fatalf("%d events were executed", len(l))
	}
	if len(at.Pending) != api.MaxStarts+15*api.MaxBudget || !stamp.Rising(at.Pending) {
		t.Fatalf("%d events are pending", len(at.Pending))
	}
	if r := s.Result(); r.Kind != api.Cut {
		t.Errorf("the kind is %d", r.Kind)
	}
	sent := uint64(0)
	for _, v := range at.States {
		sent += v.Sent
	}
	if sent != api.MaxStarts+16*api.MaxBudget {
		t.Errorf("%d events were sent", sent)
	}
	if last := l[len(l)-1].Key; !goesFirst(last, at.Pending[0].Key) {
		t.Errorf("%v is pending, %v was executed", at.Pending[0], last)
	}
}

// 12.3, 12.4: a point may have more pending than a run from First ever has.
func TestOpenWithMany(t *testing.T) {
	p := flood(t)
	at := first(t, p)
	const many = 100000
	at.Pending = nil
	at.States[1].Sent = many
	for i := range many {
		at.Pending = append(at.Pending, api.Event{Key: api.Key{Time: uint64(i / 4), Src: 1, Seq: uint64(i)}, Dst: i % 3, Data: int64(i)})
	}
	s := opened(t, p, at)
	samePoint(t, "ahead of any Step", s.Point(), at)
	if l := toEnd(s); len(l) != api.MaxBudget || !stamp.Rising(l) {
		t.Fatalf("%d events were executed", len(l))
	}
	if left := s.Point().Pending; len(left) != many+15*api.MaxBudget || !stamp.Rising(left) {
		t.Errorf("%d events are pending", len(left))
	}
}

// 12.4: a queue that grows and falls again gives what is least at each moment.
func TestGrowsAndFalls(t *testing.T) {
	// each event of data above 0 sends itself two of less data, at thrown times
	g := program(t, "entry 0\ndata\nzero out\n"+strings.Repeat("data\npush 1\nsub\nme\npush 60\nroll\npush 1\nadd\nsend 0\n", 2)+"out: stop")
	p := api.Plan{Kinds: 1, Programs: []api.Program{g}, Parts: make([]api.Part, 2), Starts: []api.Start{{Data: 8}, {Data: 7, Dst: 1}}, Seed: 5, Look: 1, End: most, Budget: 4096, Fuel: 99}
	s, other := opened(t, p, first(t, p)), newSlow(p, slowFirst(p))
	high := 0
	for alike(t, s, other) == api.OK {
		high = max(high, len(s.Point().Pending))
	}
	if r := s.Result(); r.Kind != api.Done || len(r.Trace) != 511+255 || high < 100 || len(s.Point().Pending) != 0 {
		t.Errorf("%d events, %d at once, %s", len(r.Trace), high, texts(s.Point().Pending))
	}
}

// used is how many bytes a call takes.
func used(call func()) uint64 {
	var a, b runtime.MemStats
	runtime.ReadMemStats(&a)
	call()
	runtime.ReadMemStats(&b)
	return b.TotalAlloc - a.TotalAlloc
}

// 12.4: only the memory that is used is taken: a small run takes little, however large its budget.
func TestSmallRunsTakeLittle(t *testing.T) {
	p := with(func(p *api.Plan) { p.Budget = api.MaxBudget })
	at := first(t, p)
	if n := used(func() { seqrun.Open(p, at) }); n > 16384 {
		t.Errorf("Open takes %d bytes", n)
	}
	if n := used(func() { seqrun.Run(p) }); n > 131072 {
		t.Errorf("Run takes %d bytes", n)
	}
}
