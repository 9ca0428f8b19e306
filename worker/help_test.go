package worker_test

import (
	"fmt"
	"math"
	"slices"
	"strings"
	"testing"

	"horizon/api"
	"horizon/codegen"
	"horizon/stamp"
	"horizon/vm"
	"horizon/worker"
)

const most = math.MaxUint64

// program is what a listing tells.
func program(t *testing.T, listing string) api.Program {
	t.Helper()
	g, err := vm.Assemble(listing)
	if err != nil {
		t.Fatalf("%v in\n%s", err, listing)
	}
	return g
}

// scenario is the plan of a text.
func scenario(t *testing.T, text string) api.Plan {
	t.Helper()
	p, err := codegen.Plan(text)
	if err != nil {
		t.Fatalf("%v in\n%s", err, text)
	}
	return p
}

// adds is the plan of the chapter's examples, with another lookahead and budget.
func adds(look uint64, budget int) api.Plan {
	code := []api.Instr{{Op: api.ILoad}, {Op: api.IData}, {Op: api.IAdd}, {Op: api.ISave}, {Op: api.IStop}}
	return api.Plan{
		Kinds:    1,
		Programs: []api.Program{{Words: 1, Code: code, Entry: []int{0}}},
		Parts:    []api.Part{{Words: []int64{0}}, {Words: []int64{0}}},
		Starts:   []api.Start{{Data: 5}, {Time: 3, Dst: 1, Data: 7}},
		Look:     look, End: 10, Budget: budget, Fuel: 100,
	}
}

// one and two are the layouts of the chapter's examples.
func one() api.Layout { return api.Layout{Workers: 1, Owner: []int{0, 0}, Arena: 4, Box: 1, Undo: 4} }

func two() api.Layout { return api.Layout{Workers: 2, Owner: []int{0, 1}, Arena: 4, Box: 1, Undo: 4} }

// layout is one with as much room as can be.
func layout(workers int, owner ...int) api.Layout {
	return api.Layout{Workers: workers, Owner: owner, Arena: api.MaxArena, Box: api.MaxBox, Undo: api.MaxUndo}
}

// made is a team that was not refused.
func made(t *testing.T, p api.Plan, l api.Layout) *worker.Team {
	t.Helper()
	team, code := worker.New(p, l)
	if team == nil || code != api.OK {
		t.Fatalf("New is %v, %d", team, code)
	}
	return team
}

// view is a worker's View, not refused.
func view(t *testing.T, team *worker.Team, w int) api.View {
	t.Helper()
	v, code := team.View(w)
	if code != api.OK {
		t.Fatalf("View(%d) is refused: %d", w, code)
	}
	return v
}

// steps makes steps of a worker, which must answer these phases.
func steps(t *testing.T, team *worker.Team, w int, phases ...int) {
	t.Helper()
	for i, want := range phases {
		if got, code := team.Step(w); got != want || code != api.OK {
			t.Fatalf("step %d of worker %d is %d, %d, not in phase %d", i, w, got, code, want)
		}
	}
}

// until steps all workers by turns till each of them is in a phase or has finished.
func until(t *testing.T, team *worker.Team, workers, phase int) {
	t.Helper()
	for range 1000 {
		waits := 0
		for w := range workers {
			if p := view(t, team, w).Phase; p == phase || p == api.PhOver {
				waits++
			} else {
				team.Step(w)
			}
		}
		if waits == workers {
			return
		}
	}
	t.Fatalf("phase %d is not reached", phase)
}

// toEnd steps all workers by turns till the team is over.
func toEnd(t *testing.T, team *worker.Team, workers int) api.Result {
	t.Helper()
	for range 2000000 {
		for w := range workers {
			team.Step(w)
		}
		if team.Over() {
			return team.Result()
		}
	}
	t.Fatal("it does not end")
	return api.Result{}
}

func texts(l []api.Event) string {
	var s []string
	for _, e := range l {
		s = append(s, stamp.Text(e))
	}
	return strings.Join(s, " ")
}

// key is (Time, Src, Seq).
func key(at uint64, src int, seq uint64) api.Key { return api.Key{Time: at, Src: src, Seq: seq} }

func tellStates(l []api.State) string {
	var b strings.Builder
	for i, v := range l {
		fmt.Fprintf(&b, "%d: %v dice %d sent %d; ", i, v.Words, v.Dice, v.Sent)
	}
	return b.String()
}

func tellView(v api.View) string {
	return fmt.Sprintln("phase", v.Phase, "window", v.Window, "bound", v.Bound, "total", v.Total, "code", int(v.Code), "at", v.At) +
		"pending " + texts(v.Pending) + "\nlog " + texts(v.Log) + "\ntrace " + texts(v.Trace)
}

func tellResult(r api.Result) string {
	return fmt.Sprintln("kind", r.Kind, "code", int(r.Code), "at", r.At, "window", r.Window) + tellStates(r.States) + "\ntrace " + texts(r.Trace)
}

func sameStates(a, b []api.State) bool {
	return slices.EqualFunc(a, b, func(v, w api.State) bool {
		return slices.Equal(v.Words, w.Words) && v.Dice == w.Dice && v.Sent == w.Sent
	})
}

func sameViews(a, b api.View) bool {
	return a.Phase == b.Phase && a.Window == b.Window && a.Bound == b.Bound && a.Total == b.Total && a.Code == b.Code && a.At == b.At &&
		slices.Equal(a.Pending, b.Pending) && slices.Equal(a.Log, b.Log) && slices.Equal(a.Trace, b.Trace)
}

func sameResults(a, b api.Result) bool {
	return a.Kind == b.Kind && a.Code == b.Code && a.At == b.At && a.Window == b.Window && sameStates(a.States, b.States) && slices.Equal(a.Trace, b.Trace)
}

func wantResult(t *testing.T, what any, got, want api.Result) {
	t.Helper()
	if !sameResults(got, want) {
		t.Fatalf("%v: the result is\n%s\nnot\n%s", what, tellResult(got), tellResult(want))
	}
}

// wantView holds what can be seen of a worker against the chapter's words; lists are told as texts.
func wantView(t *testing.T, team *worker.Team, w int, phase, window int, bound uint64, total int, pending, log, trace string) {
	t.Helper()
	v := view(t, team, w)
	if v.Phase != phase || v.Window != window || v.Bound != bound || v.Total != total || texts(v.Pending) != pending || texts(v.Log) != log || texts(v.Trace) != trace {
		t.Fatalf("worker %d is seen as\n%s", w, tellView(v))
	}
}

// wantCode holds what has gone wrong with a worker against the chapter's words.
func wantCode(t *testing.T, team *worker.Team, w int, code api.Errno, at api.Key) {
	t.Helper()
	if v := view(t, team, w); v.Code != code || v.At != at {
		t.Fatalf("worker %d is seen as\n%s\nnot with %d at %v", w, tellView(v), code, at)
	}
}

// wantEnd holds a result against the chapter's: its kind and all that goes with it, the texts of its trace, the first words of its parts.
func wantEnd(t *testing.T, what any, r api.Result, kind int, code api.Errno, at api.Key, window int, trace string, words ...int64) {
	t.Helper()
	if r.Kind != kind || r.Code != code || r.At != at || r.Window != window || texts(r.Trace) != trace || !slices.Equal(firstWords(r.States), words) {
		t.Fatalf("%v: the result is\n%s", what, tellResult(r))
	}
}

func firstWords(l []api.State) []int64 {
	var words []int64
	for _, v := range l {
		words = append(words, v.Words[0])
	}
	return words
}

// cloned and clonedLayout share no memory with what is handed in.
func cloned(p api.Plan) api.Plan {
	programs, parts := []api.Program{}, []api.Part{}
	for _, g := range p.Programs {
		programs = append(programs, api.Program{Words: g.Words, Locals: g.Locals, Code: slices.Clone(g.Code), Entry: slices.Clone(g.Entry)})
	}
	for _, part := range p.Parts {
		parts = append(parts, api.Part{Program: part.Program, Words: slices.Clone(part.Words)})
	}
	p.Programs, p.Parts, p.Starts = programs, parts, slices.Clone(p.Starts)
	return p
}

func clonedLayout(l api.Layout) api.Layout {
	l.Owner = slices.Clone(l.Owner)
	return l
}

// chance is a row of numbers that look thrown, and are the same at every run.
type chance uint64

func (c *chance) next() uint64 {
	*c = *c*6364136223846793005 + 1442695040888963407
	x := uint64(*c)
	x ^= x >> 32
	return x * 11400714819323198485
}

func (c *chance) below(n int) int { return int(c.next() >> 33 % uint64(n)) }

func pick[T any](c *chance, l []T) T { return l[c.below(len(l))] }

// spoil writes over a list and over the room behind its end.
func spoil[T any](l []T, with T) {
	l = l[:cap(l)]
	for i := range l {
		l[i] = with
	}
}
