package seqrun_test

import (
	"fmt"
	"math"
	"slices"
	"strings"
	"testing"

	"horizon/api"
	"horizon/seqrun"
	"horizon/stamp"
	"horizon/vm"
)

const most = math.MaxUint64

// program is what a listing tells.
func program(t *testing.T, listing string) api.Program {
	t.Helper()
	g, err := vm.Assemble(listing)
	if err != nil {
		t.Fatalf("%v in\n%s", err, listing)
	}
	return g
}

// clock is the plan Q of the chapter's examples, made anew at each call.
func clock() api.Plan {
	code := []api.Instr{
		{Op: api.IPush}, {Op: api.IMe}, {Op: api.IPush, A: 5}, {Op: api.ISend},
		{Op: api.ILoad}, {Op: api.IPush, A: 1}, {Op: api.IAdd}, {Op: api.ISave}, {Op: api.IStop},
	}
	return api.Plan{
		Kinds:    1,
		Programs: []api.Program{{Words: 1, Code: code, Entry: []int{0}}},
		Parts:    []api.Part{{Words: []int64{0}}, {Words: []int64{10}}},
		Starts:   []api.Start{{Data: 1}, {Time: 3, Dst: 1, Data: 2}},
		Seed:     7, Look: 5, End: 14, Budget: 100, Fuel: 20,
	}
}

// clockTrace is the trace of Q's whole run.
const clockTrace = "0.0.0>0:0=1 3.1.0>1:0=2 5.0.1>0:0=0 8.1.1>1:0=0 10.0.2>0:0=0 13.1.2>1:0=0"

// firstOf is the first n of the texts in a row.
func firstOf(row string, n int) string { return strings.Join(strings.Fields(row)[:n], " ") }

// with is Q, changed.
func with(change func(p *api.Plan)) api.Plan {
	p := clock()
	change(&p)
	return p
}

func texts(l []api.Event) string {
	var s []string
	for _, e := range l {
		s = append(s, stamp.Text(e))
	}
	return strings.Join(s, " ")
}

// events is what texts in a row tell.
func events(t *testing.T, row string) []api.Event {
	t.Helper()
	var l []api.Event
	for _, text := range strings.Fields(row) {
		e, code := stamp.Parse(text)
		if code != api.OK {
			t.Fatalf("%q is no event", text)
		}
		l = append(l, e)
	}
	return l
}

// tellStates, tellPoint and tellResult are all that is in a thing, in letters; lists that are empty look alike, nil or not.
func tellStates(l []api.State) string {
	var b strings.Builder
	for i, v := range l {
		fmt.Fprintf(&b, "%d: %v dice %d sent %d; ", i, v.Words, v.Dice, v.Sent)
	}
	return b.String()
}

func tellPoint(at api.Point) string {
	return tellStates(at.States) + "\npending " + texts(at.Pending) + "\ntrace " + texts(at.Trace)
}

func tellResult(r api.Result) string {
	return fmt.Sprintln("kind", r.Kind, "code", int(r.Code), "at", r.At, "window", r.Window) + tellStates(r.States) + "\ntrace " + texts(r.Trace)
}

func samePoint(t *testing.T, what any, got, want api.Point) {
	t.Helper()
	if a, b := tellPoint(got), tellPoint(want); a != b {
		t.Fatalf("%v: the point is\n%s\nnot\n%s", what, a, b)
	}
}

func sameResult(t *testing.T, what any, got, want api.Result) {
	t.Helper()
	if a, b := tellResult(got), tellResult(want); a != b {
		t.Fatalf("%v: the result is\n%s\nnot\n%s", what, a, b)
	}
}

// first is a plan's first point, not refused.
func first(t *testing.T, p api.Plan) api.Point {
	t.Helper()
	at, code := seqrun.First(p)
	if code != api.OK {
		t.Fatalf("First is %d", code)
	}
	return at
}

// opened is a run that was not refused.
func opened(t *testing.T, p api.Plan, at api.Point) *seqrun.Sim {
	t.Helper()
	s, code := seqrun.Open(p, at)
	if s == nil || code != api.OK {
		t.Fatalf("Open is %v, %d", s, code)
	}
	return s
}

// wantStep holds one Step against the chapter's; an empty text is the zero event.
func wantStep(t *testing.T, s *seqrun.Sim, text string, code api.Errno) {
	t.Helper()
	want := api.Event{}
	if text != "" {
		want = events(t, text)[0]
	}
	if e, c := s.Step(); e != want || c != code {
		t.Fatalf("Step is %v, %d, not %v, %d", e, c, want, code)
	}
}

// wantRun holds a result against the chapter's: its kind, code and key, the texts of its trace, its words, what its parts have sent.
func wantRun(t *testing.T, what any, r api.Result, kind int, code api.Errno, at api.Key, trace string, words []int64, sent []uint64) {
	t.Helper()
	if r.Kind != kind || r.Code != code || r.At != at || r.Window != 0 || texts(r.Trace) != trace || len(r.States) != len(words) {
		t.Fatalf("%v: %s", what, tellResult(r))
	}
	for i, v := range r.States {
		if !slices.Equal(v.Words, words[i:i+1]) || v.Sent != sent[i] {
			t.Fatalf("%v: %s", what, tellResult(r))
		}
	}
}

// toEnd steps a run until it is over, and is what its Steps gave.
func toEnd(s *seqrun.Sim) (l []api.Event) {
	for {
		e, code := s.Step()
		if code != api.OK {
			return l
		}
		l = append(l, e)
	}
}

// pendingBehind is what is pending when a plan's run is over.
func pendingBehind(t *testing.T, p api.Plan) []api.Event {
	t.Helper()
	s := opened(t, p, first(t, p))
	toEnd(s)
	return s.Point().Pending
}

// cloned is a plan that shares no memory with the one handed in.
func cloned(p api.Plan) api.Plan {
	programs, parts := []api.Program{}, []api.Part{}
	for _, g := range p.Programs {
		programs = append(programs, api.Program{Words: g.Words, Locals: g.Locals, Code: slices.Clone(g.Code), Entry: slices.Clone(g.Entry)})
	}
	for _, part := range p.Parts {
		parts = append(parts, api.Part{Program: part.Program, Words: slices.Clone(part.Words)})
	}
	p.Programs, p.Parts, p.Starts = programs, parts, slices.Clone(p.Starts)
	return p
}

func clonedPoint(at api.Point) api.Point {
	states := []api.State{}
	for _, v := range at.States {
		states = append(states, api.State{Words: slices.Clone(v.Words), Dice: v.Dice, Sent: v.Sent})
	}
	return api.Point{States: states, Pending: slices.Clone(at.Pending), Trace: slices.Clone(at.Trace)}
}

// chance is a row of numbers that look thrown, and are the same at every run.
type chance uint64

func (c *chance) next() uint64 {
	*c = *c*6364136223846793005 + 1442695040888963407
	x := uint64(*c)
	x ^= x >> 32
	return x * 11400714819323198485
}

func (c *chance) below(n int) int { return int(c.next() >> 33 % uint64(n)) }

func pick[T any](c *chance, l []T) T { return l[c.below(len(l))] }

// spoil writes over a list and over the room behind its end.
func spoil[T any](l []T, with T) {
	l = l[:cap(l)]
	for i := range l {
		l[i] = with
	}
}
