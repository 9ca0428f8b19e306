package horizon_test

import (
	"errors"
	"fmt"
	"strings"
	"testing"

	"horizon/api"
	"horizon/codegen"
	"horizon/horizon"
	"horizon/stamp"
)

// clock is the model of the chapter's example.
const clock = `look 5 end 14 seed 7
kind tick
type Clock { var n on tick(x) { send tick(x + 1) to me after 5 n = n + x } }
place c[2] : Clock
start tick(1) to c at 0
`

// shop is the model of DOC.md's section on the language.
const shop = `look 5  end 200  budget 300  seed 7
const N = 4
kind job, done
type Shop {
  var waiting
  var busy
  var served[2]
  on job(size) {
    waiting = waiting + 1
    if busy == 0 {
      busy = 1
      send done(size) to me after 5 + roll(10)
    }
  }
  on done(size) {
    waiting = waiting - 1
    served[size % 2] = served[size % 2] + 1
    busy = 0
    if waiting > 0 { busy = 1 send done(size + 1) to me after 5 + roll(10) }
    send job(size) to shop[(me + 1) % N] after 6
  }
}
place shop[N] : Shop (waiting = 0)
start job(3) to shop[0] at 0
start job(8) to shop[2] at 4
`

// breaks is the model of DOC.md's example 5: its third event fails.
const breaks = `look 1 end 50 kind k
type T { var n = 3 on k(x) { n = n - 1 send k(60 / n) to me after 2 } }
place t : T
start k(0) to t at 10
`

// ring is the model of DOC.md's example 6: each event asks both other parts.
const ring = `look 2 end 50 kind k
type T { on k(x) { send k(x) to (me + 1) % 3 after 2 send k(x + 1) to (me + 2) % 3 after 3 } }
place t[3] : T
start k(0) to t[0] at 0
`

// idle is a model in which there is nothing.
const idle = "look 5 end 9\n"

// model is the lines by which a script takes a model.
func model(text string) string { return "model\n" + text + ".\n" }

const (
	clockLoaded  = "ok parts 2 kinds 1 types 1\n"
	shopLoaded   = "ok parts 4 kinds 2 types 1\n"
	breaksLoaded = "ok parts 1 kinds 1 types 1\n"
	ringLoaded   = "ok parts 3 kinds 1 types 1\n"
	idleLoaded   = "ok parts 0 kinds 0 types 0\n"
)

// answers plays a script and holds the answers against what is wanted.
func answers(t *testing.T, script, want string) {
	t.Helper()
	same(t, short(script), horizon.Do(script), want)
}

// short is so much of a text as can be read in a message.
func short(s string) string {
	if len(s) > 3000 {
		return s[:3000] + " .."
	}
	return s
}

// scenario is the plan of a text.
func scenario(t *testing.T, text string) api.Plan {
	t.Helper()
	p, err := codegen.Plan(text)
	if err != nil {
		t.Fatalf("%v in\n%s", err, text)
	}
	return p
}

// loaded is a desk with a model.
func loaded(t *testing.T, text string) *horizon.Desk {
	t.Helper()
	d := horizon.New()
	if err := d.Load(text); err != nil {
		t.Fatalf("Load is %v of\n%s", err, text)
	}
	return d
}

// lays takes a layout that must be taken.
func lays(t *testing.T, d *horizon.Desk, l api.Layout) {
	t.Helper()
	if err := d.Lay(l); err != nil {
		t.Fatalf("Lay is %v of %v", err, l)
	}
}

// wide is a layout with as much room as can be.
func wide(workers int, owner ...int) api.Layout {
	return api.Layout{Workers: workers, Owner: owner, Arena: api.MaxArena, Box: api.MaxBox, Undo: api.MaxUndo}
}

func texts(l []api.Event) string {
	var s []string
	for _, e := range l {
		s = append(s, stamp.Text(e))
	}
	return strings.Join(s, " ")
}

// tell is all that is in a result; lists that are empty look alike, nil or not.
func tell(r api.Result) string {
	var b strings.Builder
	fmt.Fprintln(&b, "kind", r.Kind, "code", int(r.Code), "at", r.At, "window", r.Window)
	for i, v := range r.States {
		fmt.Fprintf(&b, "%d: %v dice %d sent %d; ", i, v.Words, v.Dice, v.Sent)
	}
	return b.String() + "\ntrace " + texts(r.Trace)
}

// tellPlan is all that is in a plan.
func tellPlan(p api.Plan) string {
	var b strings.Builder
	for _, g := range p.Programs {
		fmt.Fprintln(&b, g.Words, g.Locals, g.Code, g.Entry)
	}
	for _, part := range p.Parts {
		fmt.Fprintln(&b, part.Program, part.Words)
	}
	return b.String() + fmt.Sprintln(p.Starts, p.Kinds, p.Seed, p.Look, p.End, p.Budget, p.Fuel)
}

// tellErr is an error's type and all that is in it.
func tellErr(err error) string {
	return fmt.Sprintf("%T %v around %T", err, err, errors.Unwrap(err))
}

// answer is what Run and Restore answer, told.
func answer(r api.Result, err error) string { return tell(r) + "\n" + tellErr(err) }

// lastOf is what Last answers, told.
func lastOf(d *horizon.Desk) string { return answer(d.Last()) }

// planOf is what Plan answers, told.
func planOf(d *horizon.Desk) string {
	p, err := d.Plan()
	return tellPlan(p) + tellErr(err)
}

// refused wants an api.Errno by itself.
func refused(t *testing.T, what any, err error, want api.Errno) {
	t.Helper()
	if err != error(want) {
		t.Fatalf("%v: the error is %s, not %d", what, tellErr(err), int(want))
	}
}

// same holds one told answer against another.
func same(t *testing.T, what any, got, want string) {
	t.Helper()
	if got != want {
		t.Fatalf("%v: the answer is\n%s\nnot\n%s", what, short(got), short(want))
	}
}

// chance is a row of numbers that look thrown, and are the same at every run.
type chance uint64

func (c *chance) next() uint64 {
	*c = *c*6364136223846793005 + 1442695040888963407
	x := uint64(*c)
	x ^= x >> 32
	return x * 11400714819323198485
}

func (c *chance) below(n int) int { return int(c.next() >> 33 % uint64(n)) }

func pick[T any](c *chance, l ...T) T { return l[c.below(len(l))] }

// spoil writes over a list and over the room behind its end.
func spoil[T any](l []T, with T) {
	l = l[:cap(l)]
	for i := range l {
		l[i] = with
	}
}
