package seqrun_test

import (
	"slices"
	"testing"

	"horizon/api"
	"horizon/seqrun"
	"horizon/vm"
)

// What the chapter says follows from its rules, held against the answers alone.

// handled is what a handler makes of an event on a state.
func handled(p api.Plan, e api.Event, v api.State) api.Effect {
	return vm.Run(p.Programs[p.Parts[e.Dst].Program], api.Call{Event: e, State: v, Look: p.Look, Parts: len(p.Parts), Fuel: p.Fuel})
}

// 12.9: the trace rises, ends ahead of End, has no event twice; each of its events was there at the start, or was sent ahead of it.
func TestTraceRises(t *testing.T) {
	m := maker{chance: 129}
	sentOnes := 0
	for range 1000 {
		p := m.plan(t)
		r, at := seqrun.Run(p), first(t, p)
		there, states := map[api.Event]int{}, at.States
		for _, e := range at.Pending {
			there[e]++
		}
		for i, e := range r.Trace {
			if i > 0 && !goesFirst(r.Trace[i-1].Key, e.Key) || e.Key.Time >= p.End {
				t.Fatalf("%v stands at %d of %s", e, i, texts(r.Trace))
			}
			if there[e] != 1 {
				t.Fatalf("%v was there %d times ahead of the place %d", e, there[e], i)
			}
			delete(there, e)
			x := handled(p, e, states[e.Dst])
			states[e.Dst] = x.State
			for _, sent := range x.Out {
				if sent.Key.Src != e.Dst || sent.Key.Time-e.Key.Time < p.Look || sent.Key.Time < e.Key.Time {
					t.Fatalf("%v sends %v", e, sent)
				}
				there[sent]++
				sentOnes++
			}
		}
	}
	if sentOnes < 5000 {
		t.Errorf("only %d events were sent", sentOnes)
	}
}

// 12.9: behind each step, the numbers that a part's events bear, executed or pending, are 0 to Sent-1, each once.
func TestSentIsCounted(t *testing.T) {
	m := maker{chance: 1290}
	for range 500 {
		p := m.plan(t)
		s := opened(t, p, first(t, p))
		for {
			at := s.Point()
			count := map[[2]uint64]int{}
			for _, e := range slices.Concat(at.Trace, at.Pending) {
				count[[2]uint64{uint64(e.Key.Src), e.Key.Seq}]++
			}
			all := 0
			for part, v := range at.States {
				for seq := range v.Sent {
					if count[[2]uint64{uint64(part), seq}] != 1 {
						t.Fatalf("the event %d of part %d is there %d times in\n%s", seq, part, count[[2]uint64{uint64(part), seq}], tellPoint(at))
					}
					all++
				}
			}
			if all != len(at.Trace)+len(at.Pending) {
				t.Fatalf("%d events were sent:\n%s", all, tellPoint(at))
			}
			if _, code := s.Step(); code != api.OK {
				break
			}
		}
	}
}

// 12.10: a part's state hangs on its own events alone; what was sent and started, less the trace, is pending.
func TestStatesAndPending(t *testing.T) {
	m := maker{chance: 1210}
	for range 1000 {
		p := m.plan(t)
		r, at := seqrun.Run(p), first(t, p)
		made := slices.Clone(at.Pending)
		for part, v := range at.States {
			for _, e := range r.Trace {
				if e.Dst != part {
					continue
				}
				x := handled(p, e, v)
				if x.Code != api.OK {
					t.Fatalf("%v of the trace fails", e)
				}
				v = x.State
				made = append(made, x.Out...)
			}
			at.States[part] = v
		}
		if a, b := tellStates(r.States), tellStates(at.States); a != b {
			t.Fatalf("the states are\n%s\nnot\n%s", a, b)
		}
		made = slices.DeleteFunc(made, func(e api.Event) bool { return slices.Contains(r.Trace, e) })
		if a, b := texts(pendingBehind(t, p)), texts(inOrder(made)); a != b {
			t.Fatalf("pending is\n%s\nnot\n%s", a, b)
		}
	}
}

// 12.11: Prefix is the first n events, whatever n is.
func TestPrefixIsPrefix(t *testing.T) {
	m := maker{chance: 1211}
	for range 300 {
		p := m.plan(t)
		r := seqrun.Run(p)
		for n := -2; n <= len(r.Trace)+3; n++ {
			have := max(0, min(n, len(r.Trace)))
			x := seqrun.Prefix(p, n)
			if !slices.Equal(x.Trace, r.Trace[:have]) {
				t.Fatalf("Prefix %d is %s of %s", n, texts(x.Trace), texts(r.Trace))
			}
			if n > len(r.Trace) || n >= p.Budget {
				sameResult(t, n, x, r)
			} else if have < len(r.Trace) && x.Kind != api.Cut {
				t.Fatalf("Prefix %d is %s", n, tellResult(x))
			}
		}
	}
}

// 12.11: with a smaller End there are just the events below it.
func TestSmallerEnd(t *testing.T) {
	m := maker{chance: 12110}
	for range 300 {
		p := m.plan(t)
		r := seqrun.Run(p)
		q := p
		for q.End = range p.End {
			x := seqrun.Run(q)
			below := 0
			for below < len(r.Trace) && r.Trace[below].Key.Time < q.End {
				below++
			}
			if !slices.Equal(x.Trace, r.Trace[:below]) {
				t.Fatalf("with the end %d: %s of %s", q.End, texts(x.Trace), texts(r.Trace))
			}
		}
	}
}

// 12.11: stopped anywhere, and opened anew from its point, a run ends as it would have.
func TestStoppedAndOpenedAnew(t *testing.T) {
	m := maker{chance: 12111}
	stops := 0
	for range 250 {
		p := m.plan(t)
		want, left := seqrun.Run(p), pendingBehind(t, p)
		s := opened(t, p, first(t, p))
		for {
			again := opened(t, p, s.Point())
			samePoint(t, "opened anew", again.Point(), s.Point())
			toEnd(again)
			sameResult(t, "opened anew", again.Result(), want)
			if x := texts(again.Point().Pending); x != texts(left) {
				t.Fatalf("pending is\n%s\nnot\n%s", x, texts(left))
			}
			stops++
			if _, code := s.Step(); code != api.OK {
				break
			}
		}
		sameResult(t, "stepped", s.Result(), want)
		hop(t, p, want)
	}
	if stops < 1500 {
		t.Errorf("only %d stops", stops)
	}
}

// hop opens a run anew behind each of its steps.
func hop(t *testing.T, p api.Plan, want api.Result) {
	t.Helper()
	at := first(t, p)
	for {
		s := opened(t, p, at)
		if _, code := s.Step(); code != api.OK {
			sameResult(t, "opened anew at each step", s.Result(), want)
			return
		}
		at = s.Point()
	}
}

// 12.12: starts of unlike parts may change places.
func TestStartsChangePlaces(t *testing.T) {
	m := maker{chance: 1212}
	swaps := 0
	for range 600 {
		p := m.plan(t)
		want, at, left := seqrun.Run(p), first(t, p), pendingBehind(t, p)
		for i := 1; i < len(p.Starts); i++ {
			if p.Starts[i-1].Dst == p.Starts[i].Dst {
				continue
			}
			swaps++
			q := cloned(p)
			q.Starts[i-1], q.Starts[i] = q.Starts[i], q.Starts[i-1]
			samePoint(t, "First", first(t, q), at)
			sameResult(t, "Run", seqrun.Run(q), want)
			if x := texts(pendingBehind(t, q)); x != texts(left) {
				t.Fatalf("pending is\n%s\nnot\n%s", x, texts(left))
			}
		}
	}
	if swaps < 500 {
		t.Errorf("only %d starts changed places", swaps)
	}
}

// 12.12: a fuel that no handler uses up may be larger; the least that is enough is what the thirstiest handler takes.
func TestMoreFuel(t *testing.T) {
	m := maker{chance: 12120}
	larger, least := 0, 0
	for range 600 {
		p := m.plan(t)
		want := seqrun.Run(p)
		if want.Code == api.FaultFuel {
			continue
		}
		thirst, states := 1, first(t, p).States
		for _, e := range want.Trace {
			x := handled(p, e, states[e.Dst])
			states[e.Dst] = x.State
			thirst = max(thirst, x.Used)
		}
		if want.Kind != api.Fault {
			least++
			q := p
			q.Fuel = thirst
			sameResult(t, thirst, seqrun.Run(q), want)
		}
		for _, fuel := range []int{p.Fuel + 1, p.Fuel + m.below(1000), api.MaxFuel} {
			larger++
			q := p
			q.Fuel = fuel
			sameResult(t, fuel, seqrun.Run(q), want)
		}
	}
	if larger < 500 || least < 200 {
		t.Errorf("only %d larger fuels, %d least ones", larger, least)
	}
}
