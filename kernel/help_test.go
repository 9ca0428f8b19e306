package kernel_test

import (
	"fmt"
	"math"
	"slices"
	"strings"
	"testing"

	"horizon/api"
	"horizon/codegen"
	"horizon/seqrun"
	"horizon/stamp"
	"horizon/worker"
)

// adds is the plan P of the chapter's examples, changed.
func adds(changes ...func(p *api.Plan)) api.Plan {
	code := []api.Instr{{Op: api.ILoad}, {Op: api.IData}, {Op: api.IAdd}, {Op: api.ISave}, {Op: api.IStop}}
	p := api.Plan{
		Kinds:    1,
		Programs: []api.Program{{Words: 1, Code: code, Entry: []int{0}}},
		Parts:    []api.Part{{Words: []int64{0}}, {Words: []int64{0}}},
		Starts:   []api.Start{{Data: 5}, {Time: 3, Dst: 1, Data: 7}},
		Look:     2, End: 10, Budget: 9, Fuel: 100,
	}
	for _, change := range changes {
		change(&p)
	}
	return p
}

func look(n uint64) func(p *api.Plan) { return func(p *api.Plan) { p.Look = n } }

func budget(n int) func(p *api.Plan) { return func(p *api.Plan) { p.Budget = n } }

// one and two are the layouts of the chapter's examples, with other room in the undo log.
func one(undo int) api.Layout {
	return api.Layout{Workers: 1, Owner: []int{0, 0}, Arena: 4, Box: 1, Undo: undo}
}

func two(undo int) api.Layout {
	return api.Layout{Workers: 2, Owner: []int{0, 1}, Arena: 4, Box: 1, Undo: undo}
}

// wide is a layout with as much room as can be.
func wide(workers int, owner ...int) api.Layout {
	return api.Layout{Workers: workers, Owner: owner, Arena: api.MaxArena, Box: api.MaxBox, Undo: api.MaxUndo}
}

// tight is a layout of two workers, who own the parts of ring, with the given room.
func tight(arena, box, undo int) api.Layout {
	return api.Layout{Workers: 2, Owner: []int{0, 1, 1}, Arena: arena, Box: box, Undo: undo}
}

// ring is the model of DOC.md's example 6: each event asks both other parts.
const ring = `look 2 end 50 kind k
type T { on k(x) { send k(x) to (me + 1) % 3 after 2 send k(x + 1) to (me + 2) % 3 after 3 } }
place t[3] : T
start k(0) to t[0] at 0
`

// scenario is the plan of a text.
func scenario(t *testing.T, text string) api.Plan {
	t.Helper()
	p, err := codegen.Plan(text)
	if err != nil {
		t.Fatalf("%v in\n%s", err, text)
	}
	return p
}

func key(at uint64, src int, seq uint64) api.Key { return api.Key{Time: at, Src: src, Seq: seq} }

func texts(l []api.Event) string {
	var s []string
	for _, e := range l {
		s = append(s, stamp.Text(e))
	}
	return strings.Join(s, " ")
}

// tell is all that is in a result; lists that are empty look alike, nil or not.
func tell(r api.Result) string {
	var b strings.Builder
	fmt.Fprintln(&b, "kind", r.Kind, "code", int(r.Code), "at", r.At, "window", r.Window)
	for i, v := range r.States {
		fmt.Fprintf(&b, "%d: %v dice %d sent %d; ", i, v.Words, v.Dice, v.Sent)
	}
	return b.String() + "\ntrace " + texts(r.Trace)
}

func tellView(v api.View) string {
	return fmt.Sprintln("phase", v.Phase, "window", v.Window, "bound", v.Bound, "total", v.Total, "code", int(v.Code), "at", v.At) +
		"pending " + texts(v.Pending) + "\nlog " + texts(v.Log) + "\ntrace " + texts(v.Trace)
}

// tellErr is an error's type and all that is in it.
func tellErr(err error) string { return fmt.Sprintf("%T %v", err, err) }

// answer is what Run, Fair and Watch answer, told.
func answer(r api.Result, err error) string { return tell(r) + "\n" + tellErr(err) }

// wantAnswer holds an answer against a result, and the error that 14.1 gives it.
func wantAnswer(t *testing.T, what any, r api.Result, err error, want api.Result) {
	t.Helper()
	if got, want := answer(r, err), answer(want, errOf(want)); got != want {
		t.Fatalf("%v: the answer is\n%s\nnot\n%s", what, got, want)
	}
}

// errOf is 14.1 a second time.
func errOf(r api.Result) error {
	switch {
	case r.Kind == 3:
		return &api.KeyError{Key: r.At, Err: r.Code}
	case r.Kind == 4:
		return &api.WindowError{Window: r.Window, Err: r.Code}
	case r.Kind == 5 || r.Kind == 6:
		return r.Code
	}
	return nil
}

// ended holds what an answer tells against the chapter's: the kind with all that goes with it, the trace, the words of all parts.
func ended(t *testing.T, what any, r api.Result, err error, kind int, code api.Errno, window int, trace string, words ...int64) {
	t.Helper()
	var got []int64
	for _, v := range r.States {
		got = append(got, v.Words...)
	}
	if r.Kind != kind || r.Code != code || r.At != (api.Key{}) || r.Window != window || texts(r.Trace) != trace || !slices.Equal(got, words) || tellErr(err) != tellErr(errOf(r)) {
		t.Errorf("%v: the answer is\n%s", what, answer(r, err))
	}
}

// made is a team that was not refused.
func made(t *testing.T, p api.Plan, l api.Layout) *worker.Team {
	t.Helper()
	team, code := worker.New(p, l)
	if code != api.OK {
		t.Fatalf("New is %d", code)
	}
	return team
}

// behindWindows is how many events the first 0, 1, 2 .. windows of a run in the order of keys have.
func behindWindows(p api.Plan) []int {
	l := []int{0}
	for _, w := range seqrun.Windows(p) {
		l = append(l, l[len(l)-1]+w.Events)
	}
	return l
}

// promised is the result that 14.9 promises, if Room is j.
func promised(p api.Plan, j int) api.Result {
	if j == 0 {
		return seqrun.Run(p)
	}
	r := seqrun.Prefix(p, behindWindows(p)[j-1])
	return api.Result{Kind: api.Resource, Code: api.ErrNoRoom, Window: j, States: r.States, Trace: r.Trace}
}

// turnsOf is the picks of 14.4.
func turnsOf(workers, rounds int) []int {
	var l []int
	for range rounds {
		for w := range workers {
			l = append(l, w)
		}
	}
	return l
}

func zeros(n int) []int { return make([]int, n) }

// strange are numbers that are no worker's, how many workers there may be.
func strange() []int {
	return []int{-1, api.MaxWorkers, 1000, math.MinInt, math.MaxInt, -1 << 32, 1 << 32}
}

// chance is a row of numbers that look thrown, and are the same at every run.
type chance uint64

func (c *chance) next() uint64 {
	*c = *c*6364136223846793005 + 1442695040888963407
	x := uint64(*c)
	x ^= x >> 32
	return x * 11400714819323198485
}

func (c *chance) below(n int) int { return int(c.next() >> 33 % uint64(n)) }

func pick[T any](c *chance, l ...T) T { return l[c.below(len(l))] }

// spoil writes over a list and over the room behind its end.
func spoil[T any](l []T, with T) {
	l = l[:cap(l)]
	for i := range l {
		l[i] = with
	}
}
