package warp_test

import (
	"fmt"
	"math"
	"slices"
	"strings"
	"testing"

	"horizon/api"
	"horizon/codegen"
	"horizon/stamp"
	"horizon/warp"
)

// exchange is the plan X of the chapter's examples, changed.
func exchange(changes ...func(p *api.Plan)) api.Plan {
	code := []api.Instr{{Op: api.ILoad}, {Op: api.IPush, A: 1}, {Op: api.IAdd}, {Op: api.ISave}, {Op: api.IPush}, {Op: api.IPush, A: 1}, {Op: api.IMe}, {Op: api.ISub}, {Op: api.IPush, A: 5}, {Op: api.ISend}, {Op: api.IStop}}
	p := api.Plan{
		Kinds:    1,
		Programs: []api.Program{{Words: 1, Code: code, Entry: []int{0}}},
		Parts:    []api.Part{{Words: []int64{0}}, {Words: []int64{0}}},
		Starts:   []api.Start{{}, {Time: 9, Dst: 1}},
		Seed:     1, Look: 5, End: 16, Budget: 10, Fuel: 20,
	}
	for _, change := range changes {
		change(&p)
	}
	return p
}

func budget(n int) func(p *api.Plan) { return func(p *api.Plan) { p.Budget = n } }

func fuel(n int) func(p *api.Plan) { return func(p *api.Plan) { p.Fuel = n } }

func end(at uint64) func(p *api.Plan) { return func(p *api.Plan) { p.End = at } }

func starts(l ...api.Start) func(p *api.Plan) { return func(p *api.Plan) { p.Starts = l } }

// two is the layout L of the chapter's examples, with another room for what may be undone.
func two(undo int) api.Layout {
	return api.Layout{Workers: 2, Owner: []int{0, 1}, Arena: 9, Box: 9, Undo: undo}
}

// wide is a layout with as much room as can be.
func wide(workers int, owner ...int) api.Layout {
	return api.Layout{Workers: workers, Owner: owner, Arena: api.MaxArena, Box: api.MaxBox, Undo: api.MaxUndo}
}

// scenario is the plan of a text.
func scenario(t *testing.T, text string) api.Plan {
	t.Helper()
	p, err := codegen.Plan(text)
	if err != nil {
		t.Fatalf("%v in\n%s", err, text)
	}
	return p
}

// made is a team that was not refused.
func made(t *testing.T, p api.Plan, l api.Layout) *warp.Team {
	t.Helper()
	team, code := warp.New(p, l)
	if team == nil || code != api.OK {
		t.Fatalf("New is %v, %d", team, code)
	}
	return team
}

// view is a worker's View, not refused.
func view(t *testing.T, team *warp.Team, w int) api.Warp {
	t.Helper()
	v, code := team.View(w)
	if code != api.OK {
		t.Fatalf("View(%d) is refused: %d", w, code)
	}
	return v
}

// steps makes steps of a worker, which must answer these.
func steps(t *testing.T, team *warp.Team, w int, wants ...int) {
	t.Helper()
	for i, want := range wants {
		if got, code := team.Step(w); got != want || code != api.OK {
			t.Fatalf("step %d of worker %d is %d, %d, not %d", i, w, got, code, want)
		}
	}
}

// gathers makes a Gather, which must commit so many events.
func gathers(t *testing.T, team *warp.Team, want int) {
	t.Helper()
	if got, code := team.Gather(); got != want || code != api.OK {
		t.Fatalf("Gather is %d, %d, not %d", got, code, want)
	}
}

// refused holds that a run that is over refuses all that would move it.
func refused(t *testing.T, team *warp.Team, workers int) {
	t.Helper()
	if !team.Over() {
		t.Fatal("the run is not over")
	}
	for _, w := range append(strange(), 0, workers-1, workers) {
		if did, code := team.Step(w); did != 0 || code != api.ErrOver {
			t.Fatalf("Step(%d) behind the end is %d, %d", w, did, code)
		}
	}
	if n, code := team.Gather(); n != 0 || code != api.ErrOver {
		t.Fatalf("Gather behind the end is %d, %d", n, code)
	}
}

func key(at uint64, src int, seq uint64) api.Key { return api.Key{Time: at, Src: src, Seq: seq} }

func keyText(k api.Key) string { return fmt.Sprint(k.Time, ".", k.Src, ".", k.Seq) }

// keys writes events as the chapter's examples do.
func keys(l []api.Event) string {
	var s []string
	for _, e := range l {
		s = append(s, keyText(e.Key))
	}
	return strings.Join(s, " ")
}

// mail writes letters by their keys, an anti-event with a - in front.
func mail(l []api.Letter) string {
	var s []string
	for _, x := range l {
		sign := ""
		if x.Anti {
			sign = "-"
		}
		s = append(s, sign+keyText(x.Event.Key))
	}
	return strings.Join(s, " ")
}

// brief is a View with its events as keys: Pending, Done, Mail, Back and Anti.
func brief(v api.Warp) string {
	return fmt.Sprint(keys(v.Pending), "|", keys(v.Done), "|", mail(v.Mail), "|", v.Back, " ", v.Anti)
}

func wantView(t *testing.T, team *warp.Team, w int, want string) {
	t.Helper()
	if got := brief(view(t, team, w)); got != want {
		t.Fatalf("View(%d) is %q, not %q", w, got, want)
	}
}

func wantLow(t *testing.T, team *warp.Team, want string, found bool) {
	t.Helper()
	if k, any := team.Low(); keyText(k) != want || any != found {
		t.Fatalf("Low is %s, %v, not %s, %v", keyText(k), any, want, found)
	}
}

// wantEnd holds a result against the chapter's: its kind and all that goes with it, the keys of its trace, the first words of its parts.
func wantEnd(t *testing.T, what any, r api.Result, kind int, code api.Errno, at api.Key, trace string, words ...int64) {
	t.Helper()
	var got []int64
	for _, v := range r.States {
		got = append(got, v.Words[0])
	}
	if r.Kind != kind || r.Code != code || r.At != at || r.Window != 0 || keys(r.Trace) != trace || !slices.Equal(got, words) {
		t.Fatalf("%v: the result is\n%s", what, tell(r))
	}
}

// wantOpen holds the result of a run that is on its way.
func wantOpen(t *testing.T, team *warp.Team, trace string, words ...int64) {
	t.Helper()
	if team.Over() {
		t.Fatal("the run is over")
	}
	wantEnd(t, "on its way", team.Result(), api.Unfinished, api.ErrUnfinished, api.Key{}, trace, words...)
}

func texts(l []api.Event) string {
	var s []string
	for _, e := range l {
		s = append(s, stamp.Text(e))
	}
	return strings.Join(s, " ")
}

// tell is all that is in a result; lists that are empty look alike, nil or not.
func tell(r api.Result) string {
	var b strings.Builder
	fmt.Fprintln(&b, "kind", r.Kind, "code", int(r.Code), "at", r.At, "window", r.Window)
	for i, v := range r.States {
		fmt.Fprintf(&b, "%d: %v dice %d sent %d; ", i, v.Words, v.Dice, v.Sent)
	}
	return b.String() + "\ntrace " + texts(r.Trace)
}

// tellView is all that is in a View.
func tellView(v api.Warp) string {
	var b strings.Builder
	for _, x := range v.Mail {
		fmt.Fprint(&b, stamp.Text(x.Event), " ", x.Anti, "; ")
	}
	return fmt.Sprint("back ", v.Back, " anti ", v.Anti, "\npending ", texts(v.Pending), "\ndone ", texts(v.Done), "\nmail ", b.String())
}

func sameStates(a, b []api.State) bool {
	return slices.EqualFunc(a, b, func(v, w api.State) bool {
		return slices.Equal(v.Words, w.Words) && v.Dice == w.Dice && v.Sent == w.Sent
	})
}

func sameViews(a, b api.Warp) bool {
	return a.Back == b.Back && a.Anti == b.Anti && slices.Equal(a.Pending, b.Pending) && slices.Equal(a.Done, b.Done) && slices.Equal(a.Mail, b.Mail)
}

func sameResults(a, b api.Result) bool {
	return a.Kind == b.Kind && a.Code == b.Code && a.At == b.At && a.Window == b.Window && sameStates(a.States, b.States) && slices.Equal(a.Trace, b.Trace)
}

func wantResult(t *testing.T, what any, got, want api.Result) {
	t.Helper()
	if !sameResults(got, want) {
		t.Fatalf("%v: the result is\n%s\nnot\n%s", what, tell(got), tell(want))
	}
}

// tellErr is an error's type and all that is in it.
func tellErr(err error) string { return fmt.Sprintf("%T %v", err, err) }

// errOf is the error that 14.1 gives a result.
func errOf(r api.Result) error {
	switch r.Kind {
	case api.Fault:
		return &api.KeyError{Key: r.At, Err: r.Code}
	case api.Unfinished, api.Rejected:
		return r.Code
	}
	return nil
}

// wantAnswer holds an answer of Run or Fair against a result, and the error that goes with it.
func wantAnswer(t *testing.T, what any, r api.Result, err error, want api.Result) {
	t.Helper()
	wantResult(t, what, r, want)
	if got, want := tellErr(err), tellErr(errOf(want)); got != want {
		t.Fatalf("%v: the error is %s, not %s", what, got, want)
	}
}

// turnsOf is the picks of 18.7.
func turnsOf(workers, rounds int) []int {
	var l []int
	for range rounds {
		for pick := range workers + 1 {
			l = append(l, pick)
		}
	}
	return l
}

// strange are numbers that are no worker's, and no Gather either, how many workers there may be.
func strange() []int {
	return []int{-1, api.MaxWorkers + 1, 1000, math.MinInt, math.MaxInt, -1 << 32, 1 << 32}
}

// chance is a row of numbers that look thrown, and are the same at every run.
type chance uint64

func (c *chance) next() uint64 {
	*c = *c*6364136223846793005 + 1442695040888963407
	x := uint64(*c)
	x ^= x >> 32
	return x * 11400714819323198485
}

func (c *chance) below(n int) int { return int(c.next() >> 33 % uint64(n)) }

func pick[T any](c *chance, l ...T) T { return l[c.below(len(l))] }

// spoil writes over a list and over the room behind its end.
func spoil[T any](l []T, with T) {
	l = l[:cap(l)]
	for i := range l {
		l[i] = with
	}
}
