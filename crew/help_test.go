package crew_test

import (
	"fmt"
	"slices"
	"strings"
	"testing"

	"horizon/api"
	"horizon/codegen"
	"horizon/stamp"
)

// clockwork is the plan Q of the chapter's examples, changed: each part sends itself an event after 5, and counts.
func clockwork(changes ...func(p *api.Plan)) api.Plan {
	code := []api.Instr{{Op: api.IPush}, {Op: api.IMe}, {Op: api.IPush, A: 5}, {Op: api.ISend}, {Op: api.ILoad}, {Op: api.IPush, A: 1}, {Op: api.IAdd}, {Op: api.ISave}, {Op: api.IStop}}
	p := api.Plan{
		Kinds:    1,
		Programs: []api.Program{{Words: 1, Code: code, Entry: []int{0}}},
		Parts:    []api.Part{{Words: []int64{0}}, {Words: []int64{10}}},
		Starts:   []api.Start{{Data: 1}, {Time: 3, Dst: 1, Data: 2}},
		Seed:     7, Look: 5, End: 14, Budget: 100, Fuel: 20,
	}
	for _, change := range changes {
		change(&p)
	}
	return p
}

func look(n uint64) func(p *api.Plan) { return func(p *api.Plan) { p.Look = n } }

func end(n uint64) func(p *api.Plan) { return func(p *api.Plan) { p.End = n } }

func budget(n int) func(p *api.Plan) { return func(p *api.Plan) { p.Budget = n } }

// pair is the layout L of the chapter's examples.
func pair() api.Layout {
	return api.Layout{Workers: 2, Owner: []int{0, 1}, Arena: 4, Box: 4, Undo: 4}
}

// alone is a layout of one worker, with the given room in its undo log.
func alone(undo int) api.Layout {
	return api.Layout{Workers: 1, Owner: []int{0, 0}, Arena: 4, Box: 4, Undo: undo}
}

// wide is a layout with as much room as can be.
func wide(workers int, owner ...int) api.Layout {
	return api.Layout{Workers: workers, Owner: owner, Arena: api.MaxArena, Box: api.MaxBox, Undo: api.MaxUndo}
}

// ticks is the trace of clockwork, up to so many events.
func ticks(n int) string {
	l := []string{"0.0.0>0:0=1", "3.1.0>1:0=2", "5.0.1>0:0=0", "8.1.1>1:0=0", "10.0.2>0:0=0", "13.1.2>1:0=0"}
	return strings.Join(l[:n], " ")
}

// shop is the model of DOC.md's section on the language.
const shop = `look 5  end 200  budget 300  seed 7
const N = 4
kind job, done
type Shop {
  var waiting
  var busy
  var served[2]
  on job(size) {
    waiting = waiting + 1
    if busy == 0 {
      busy = 1
      send done(size) to me after 5 + roll(10)
    }
  }
  on done(size) {
    waiting = waiting - 1
    served[size % 2] = served[size % 2] + 1
    busy = 0
    if waiting > 0 { busy = 1 send done(size + 1) to me after 5 + roll(10) }
    send job(size) to shop[(me + 1) % N] after 6
  }
}
place shop[N] : Shop (waiting = 0)
start job(3) to shop[0] at 0
start job(8) to shop[2] at 4
`

// ring is the model of DOC.md's example 6: each event asks both other parts.
const ring = `look 2 end 50 kind k
type T { on k(x) { send k(x) to (me + 1) % 3 after 2 send k(x + 1) to (me + 2) % 3 after 3 } }
place t[3] : T
start k(0) to t[0] at 0
`

// scenario is the plan of a text.
func scenario(t *testing.T, text string) api.Plan {
	t.Helper()
	p, err := codegen.Plan(text)
	if err != nil {
		t.Fatalf("%v in\n%s", err, text)
	}
	return p
}

func texts(l []api.Event) string {
	var s []string
	for _, e := range l {
		s = append(s, stamp.Text(e))
	}
	return strings.Join(s, " ")
}

// tell is all that is in a result; lists that are empty look alike, nil or not.
func tell(r api.Result) string {
	var b strings.Builder
	fmt.Fprintln(&b, "kind", r.Kind, "code", int(r.Code), "at", r.At, "window", r.Window)
	for i, v := range r.States {
		fmt.Fprintf(&b, "%d: %v dice %d sent %d; ", i, v.Words, v.Dice, v.Sent)
	}
	return b.String() + "\ntrace " + texts(r.Trace)
}

// tellErr is an error's type and all that is in it.
func tellErr(err error) string { return fmt.Sprintf("%T %v", err, err) }

// answer is what Run and Until answer, told.
func answer(r api.Result, err error) string { return tell(r) + "\n" + tellErr(err) }

// wantAnswer holds an answer against a result, and the error that chapter 14 gives it.
func wantAnswer(t *testing.T, what any, r api.Result, err error, want api.Result) {
	t.Helper()
	if got, want := answer(r, err), answer(want, errOf(want)); got != want {
		t.Fatalf("%v: the answer is\n%s\nnot\n%s", what, got, want)
	}
}

// errOf is 14.1 a second time.
func errOf(r api.Result) error {
	switch {
	case r.Kind == 3:
		return &api.KeyError{Key: r.At, Err: r.Code}
	case r.Kind == 4:
		return &api.WindowError{Window: r.Window, Err: r.Code}
	case r.Kind == 5 || r.Kind == 6:
		return r.Code
	}
	return nil
}

// ended holds what an answer tells against the chapter's: the kind with all that goes with it, the trace, the words of all parts.
func ended(t *testing.T, what any, r api.Result, err error, kind int, code api.Errno, window int, trace string, words ...int64) {
	t.Helper()
	var got []int64
	for _, v := range r.States {
		got = append(got, v.Words...)
	}
	if r.Kind != kind || r.Code != code || r.At != (api.Key{}) || r.Window != window || texts(r.Trace) != trace || !slices.Equal(got, words) || tellErr(err) != tellErr(errOf(r)) {
		t.Errorf("%v: the answer is\n%s", what, answer(r, err))
	}
}

// chance is a row of numbers that look thrown, and are the same at every run.
type chance uint64

func (c *chance) next() uint64 {
	*c = *c*6364136223846793005 + 1442695040888963407
	x := uint64(*c)
	x ^= x >> 32
	return x * 11400714819323198485
}

func (c *chance) below(n int) int { return int(c.next() >> 33 % uint64(n)) }

func pick[T any](c *chance, l ...T) T { return l[c.below(len(l))] }

// spoil writes over a list and over the room behind its end.
func spoil[T any](l []T, with T) {
	l = l[:cap(l)]
	for i := range l {
		l[i] = with
	}
}
