package seqrun_test

import (
	"math"
	"testing"

	"horizon/api"
	"horizon/seqrun"
)

// far is a point of Q behind three steps: pending are 8.1.1, 10.0.2.
func far(t *testing.T) api.Point {
	t.Helper()
	s := opened(t, clock(), first(t, clock()))
	for range 3 {
		s.Step()
	}
	return s.Point()
}

// 12.3: the chapter's example 10, and each thing that a point of Q may not have, at its edge and beside it.
func TestOpen(t *testing.T) {
	for i, c := range []struct {
		code   api.Errno
		change func(at *api.Point)
	}{
		{api.OK, func(at *api.Point) {}},
		{api.ErrPoint, func(at *api.Point) { at.States = at.States[:1] }},
		{api.ErrPoint, func(at *api.Point) { at.States = nil }},
		{api.ErrPoint, func(at *api.Point) { at.States, at.Pending = nil, nil }},
		{api.ErrPoint, func(at *api.Point) { at.States = append(at.States, at.States[0]) }},
		{api.ErrPoint, func(at *api.Point) { at.States[0].Words = nil }},
		{api.ErrPoint, func(at *api.Point) { at.States[1].Words = nil }},
		{api.ErrPoint, func(at *api.Point) { at.States[1].Words = []int64{1, 2} }},
		{api.OK, func(at *api.Point) { at.States[1].Words = []int64{math.MinInt64} }},
		{api.OK, func(at *api.Point) { at.States[0].Sent = 1 << 62 }},
		{api.OK, func(at *api.Point) { at.States[1].Sent = 1 << 62 }},
		{api.ErrPoint, func(at *api.Point) { at.States[0].Sent = 1<<62 + 1 }},
		{api.ErrPoint, func(at *api.Point) { at.States[1].Sent = 1<<62 + 1 }},
		{api.ErrPoint, func(at *api.Point) { at.States[1].Sent = most }},
		{api.ErrPoint, func(at *api.Point) { at.States[0].Sent = 2 }}, // 10.0.2 is pending
		{api.ErrPoint, func(at *api.Point) { at.States[1].Sent = 0 }},
		{api.OK, func(at *api.Point) { at.States[0].Dice = most }},
		{api.ErrPoint, func(at *api.Point) { at.Pending[0], at.Pending[1] = at.Pending[1], at.Pending[0] }},
		{api.ErrPoint, func(at *api.Point) { at.Pending[1] = at.Pending[0] }},
		{api.ErrPoint, func(at *api.Point) { at.Pending[1].Key = at.Pending[0].Key }},
		{api.OK, func(at *api.Point) { at.Pending[0].Key, at.Pending[1].Key = api.Key{}, api.Key{Seq: 1} }},
		{api.OK, func(at *api.Point) { at.Pending[0].Key, at.Pending[1].Key = api.Key{Seq: 2}, api.Key{Src: 1} }},
		{api.OK, func(at *api.Point) { at.Pending[0].Key, at.Pending[1].Key = api.Key{Seq: 2}, api.Key{Time: 1, Seq: 2} }}, // one Src and Seq twice
		{api.ErrPoint, func(at *api.Point) { at.Pending[0].Key, at.Pending[1].Key = api.Key{Src: 1}, api.Key{Seq: 2} }},
		{api.ErrPoint, func(at *api.Point) { at.Pending[0].Key, at.Pending[1].Key = api.Key{Seq: 2}, api.Key{Seq: 1} }},
		{api.ErrPoint, func(at *api.Point) { at.Pending[0].Dst = 2 }},
		{api.ErrPoint, func(at *api.Point) { at.Pending[1].Dst = -1 }},
		{api.OK, func(at *api.Point) { at.Pending[0].Dst, at.Pending[1].Dst = 0, 1 }},
		{api.ErrPoint, func(at *api.Point) { at.Pending[0].Kind = 1 }},
		{api.ErrPoint, func(at *api.Point) { at.Pending[1].Kind = -1 }},
		{api.ErrPoint, func(at *api.Point) { at.Pending[1].Kind = math.MaxInt }},
		{api.ErrPoint, func(at *api.Point) { at.Pending[0].Key.Src = 2 }},
		{api.ErrPoint, func(at *api.Point) { at.Pending[1].Key.Src = -1 }},
		{api.ErrPoint, func(at *api.Point) { at.Pending[1].Key.Src = math.MinInt }},
		{api.ErrPoint, func(at *api.Point) { at.Pending[0].Key.Seq = 2 }}, // part 1 has sent 2
		{api.OK, func(at *api.Point) { at.Pending[0].Key.Seq = 0 }},
		{api.ErrPoint, func(at *api.Point) { at.Pending[1].Key.Seq = 3 }}, // part 0 has sent 3
		{api.ErrPoint, func(at *api.Point) { at.Pending[1].Key.Seq = most }},
		{api.OK, func(at *api.Point) { at.Pending = nil }},
		{api.OK, func(at *api.Point) { at.Pending = at.Pending[1:] }},
		{api.OK, func(at *api.Point) { at.Pending[1].Key.Time = most }},
		{api.OK, func(at *api.Point) { at.Trace = nil }},
		{api.OK, func(at *api.Point) { at.Trace = make([]api.Event, 100) }},
		{api.ErrPoint, func(at *api.Point) { at.Trace = make([]api.Event, 101) }},
		{api.OK, func(at *api.Point) { at.Trace = []api.Event{{Dst: -7, Kind: 99, Key: api.Key{Src: 99}}, {}} }},
	} {
		at := far(t)
		c.change(&at)
		s, code := seqrun.Open(clock(), at)
		if code != c.code || (s != nil) != (code == api.OK) || slowFits(clock(), at) != (code == api.OK) {
			t.Errorf("row %d: Open is %v, %d, not %d", i, s, code, c.code)
		}
		if s == nil {
			continue
		}
		samePoint(t, i, s.Point(), at)
		other := newSlow(clock(), at)
		for range 10 {
			alike(t, s, other)
		}
	}
}

// 12.3: a trace as long as the budget is a run that is over; one shorter, there is one step; events of a trace are handed on as they are.
func TestOpenCountsTheTrace(t *testing.T) {
	at := first(t, clock())
	at.Trace = make([]api.Event, 100)
	s := opened(t, clock(), at)
	if r := s.Result(); r.Kind != api.Cut || r.Code != api.OK || len(r.Trace) != 100 {
		t.Error(tellResult(r))
	}
	wantStep(t, s, "", api.ErrOver)
	for i := range at.Trace {
		at.Trace[i] = api.Event{Key: api.Key{Time: uint64(-i), Src: -i, Seq: 7}, Dst: -i, Kind: i, Data: int64(i)}
	}
	at.Trace = at.Trace[:99]
	s = opened(t, clock(), at)
	wantStep(t, s, "0.0.0>0:0=1", api.OK)
	wantStep(t, s, "", api.ErrOver)
	if r := s.Result(); r.Kind != api.Cut || texts(r.Trace) != texts(at.Trace)+" 0.0.0>0:0=1" {
		t.Error(tellResult(r))
	}
	none := with(func(p *api.Plan) { p.Budget = 0 })
	at.Trace = at.Trace[:1]
	if s, code := seqrun.Open(none, at); s != nil || code != api.ErrPoint {
		t.Errorf("Open is %v, %d", s, code)
	}
}

// 12.3: a plan without parts has one point, but for its trace.
func TestOpenWithoutParts(t *testing.T) {
	p := api.Plan{Kinds: 1, Look: 1, End: 9, Budget: 1, Fuel: 1}
	s := opened(t, p, api.Point{})
	wantStep(t, s, "", api.ErrOver)
	sameResult(t, "no parts", s.Result(), api.Result{Kind: api.Done})
	opened(t, p, api.Point{Trace: make([]api.Event, 1)})
	for _, at := range []api.Point{{States: make([]api.State, 1)}, {Pending: make([]api.Event, 1)}, {Trace: make([]api.Event, 2)}} {
		if s, code := seqrun.Open(p, at); s != nil || code != api.ErrPoint {
			t.Errorf("Open at %v is %v, %d", at, s, code)
		}
	}
}

// 12.3, 12.4: Sent at its greatest: what is sent then has the keys from 2^62 on.
func TestOpenAtTheGreatestSent(t *testing.T) {
	at := first(t, clock())
	at.States[0].Sent = 1 << 62
	s := opened(t, clock(), at)
	wantStep(t, s, "0.0.0>0:0=1", api.OK)
	if x := s.Point(); texts(x.Pending) != "3.1.0>1:0=2 5.0.4611686018427387904>0:0=0" || x.States[0].Sent != 1<<62+1 {
		t.Error(tellPoint(x))
	}
	if s, code := seqrun.Open(clock(), s.Point()); s != nil || code != api.ErrPoint {
		t.Errorf("Open is %v, %d", s, code)
	}
}

// 12.3, 12.4: what is pending may lie ahead of what was executed: the least key goes first all the same.
func TestOpenInThePast(t *testing.T) {
	at := far(t)
	at.Pending = events(t, "1.0.0>1:0=7 2.1.0>0:0=8 2.1.1>1:0=9")
	s := opened(t, clock(), at)
	for _, text := range []string{"1.0.0>1:0=7", "2.1.0>0:0=8", "2.1.1>1:0=9", "6.1.2>1:0=0", "7.0.3>0:0=0", "7.1.3>1:0=0", "11.1.4>1:0=0", "12.0.4>0:0=0", "12.1.5>1:0=0"} {
		wantStep(t, s, text, api.OK)
	}
	wantStep(t, s, "", api.ErrOver)
}

// strange changes one thing of a point, mostly into something that can't be.
func strange(m *maker, at *api.Point, budget int) {
	numbers := []int{-1, 0, 1, 2, m.parts - 1, m.parts, m.kinds, math.MinInt, math.MaxInt}
	n := pick(&m.chance, numbers)
	if len(at.Pending) > 0 {
		e := &at.Pending[m.below(len(at.Pending))]
		switch m.below(12) {
		case 0:
			e.Dst = n
		case 1:
			e.Kind = n
		case 2:
			e.Key.Src = n
		case 3:
			e.Key.Seq = uint64(n)
		case 4:
			e.Key.Time = uint64(n)
		case 5:
			e.Key = at.Pending[m.below(len(at.Pending))].Key
		case 6:
			at.Pending = append(at.Pending, *e)
		}
	}
	if len(at.States) > 0 {
		v := &at.States[m.below(len(at.States))]
		switch m.below(12) {
		case 0:
			v.Sent = pick(&m.chance, []uint64{0, 1, 2, 1 << 62, 1<<62 + 1, most})
		case 1:
			v.Words = append(v.Words, 5)
		case 2:
			at.States = at.States[1:]
		case 3:
			v.Dice = m.next()
		}
	}
	if m.below(6) == 0 {
		at.Trace = make([]api.Event, max(0, budget-1+m.below(3)))
	}
}

// 12.3, 12.4, 12.5: points that a run came to, changed: Open takes those that the words let in, and goes on from them as the words say.
func TestThrownPoints(t *testing.T) {
	m := maker{chance: 123}
	taken, refused, stepped := 0, 0, 0
	for range 4000 {
		p := m.plan(t)
		s := opened(t, p, first(t, p))
		for range m.below(12) {
			s.Step()
		}
		at := s.Point()
		for range 1 + m.below(2) {
			strange(&m, &at, p.Budget)
		}
		fits := slowFits(p, at)
		again, code := seqrun.Open(p, at)
		if !fits {
			refused++
			if again != nil || code != api.ErrPoint {
				t.Fatalf("Open of %+v at\n%s\nis %v, %d", p, tellPoint(at), again, code)
			}
			continue
		}
		taken++
		if again == nil || code != api.OK {
			t.Fatalf("Open of %+v at\n%s\nis %v, %d", p, tellPoint(at), again, code)
		}
		samePoint(t, "ahead of any Step", again.Point(), at)
		other := newSlow(p, at)
		for alike(t, again, other) == api.OK {
			stepped++
		}
	}
	if taken < 1000 || refused < 1000 || stepped < 4000 {
		t.Errorf("%d points were taken, %d refused; %d steps", taken, refused, stepped)
	}
}
