package journal_test

import (
	"errors"
	"fmt"
	"strings"
	"testing"

	"horizon/api"
	"horizon/codegen"
	"horizon/seqrun"
	"horizon/stamp"
)

// small is the plan of the chapter's examples.
func small(changes ...func(p *api.Plan)) api.Plan {
	p := api.Plan{
		Kinds:    1,
		Programs: []api.Program{{Entry: []int{-1}}},
		Parts:    []api.Part{{}},
		Starts:   []api.Start{{Time: 3}},
		Look:     1, End: 10, Budget: 5, Fuel: 5,
	}
	for _, change := range changes {
		change(&p)
	}
	return p
}

// clockwork is the plan Q of chapter 12's examples, changed: each part sends itself an event after 5, and counts.
func clockwork(changes ...func(p *api.Plan)) api.Plan {
	code := []api.Instr{{Op: api.IPush}, {Op: api.IMe}, {Op: api.IPush, A: 5}, {Op: api.ISend}, {Op: api.ILoad}, {Op: api.IPush, A: 1}, {Op: api.IAdd}, {Op: api.ISave}, {Op: api.IStop}}
	p := api.Plan{
		Kinds:    1,
		Programs: []api.Program{{Words: 1, Code: code, Entry: []int{0}}},
		Parts:    []api.Part{{Words: []int64{0}}, {Words: []int64{10}}},
		Starts:   []api.Start{{Data: 1}, {Time: 3, Dst: 1, Data: 2}},
		Seed:     7, Look: 5, End: 14, Budget: 100, Fuel: 20,
	}
	for _, change := range changes {
		change(&p)
	}
	return p
}

func look(n uint64) func(p *api.Plan) { return func(p *api.Plan) { p.Look = n } }

func end(n uint64) func(p *api.Plan) { return func(p *api.Plan) { p.End = n } }

func budget(n int) func(p *api.Plan) { return func(p *api.Plan) { p.Budget = n } }

// shop is the model of DOC.md's section on the language.
const shop = `look 5  end 200  budget 300  seed 7
const N = 4
kind job, done
type Shop {
  var waiting
  var busy
  var served[2]
  on job(size) {
    waiting = waiting + 1
    if busy == 0 {
      busy = 1
      send done(size) to me after 5 + roll(10)
    }
  }
  on done(size) {
    waiting = waiting - 1
    served[size % 2] = served[size % 2] + 1
    busy = 0
    if waiting > 0 { busy = 1 send done(size + 1) to me after 5 + roll(10) }
    send job(size) to shop[(me + 1) % N] after 6
  }
}
place shop[N] : Shop (waiting = 0)
start job(3) to shop[0] at 0
start job(8) to shop[2] at 4
`

// breaks is a model that fails in the middle of its third window: the part 1 fails at 23, the part 0 has its event at 20.
const breaks = `look 10 end 90 kind k
type T { var n = 2 on k(x) { if n == 0 && me == 1 { fail 7 } n = n - 1 send k(x + 1) to me after 10 } }
place t[2] : T
start k(0) to t[0] at 0
start k(0) to t[1] at 3
`

// scenario is the plan of a text.
func scenario(t *testing.T, text string) api.Plan {
	t.Helper()
	p, err := codegen.Plan(text)
	if err != nil {
		t.Fatalf("%v in\n%s", err, text)
	}
	return p
}

// first is the point at which a plan's run begins.
func first(t *testing.T, p api.Plan) api.Point {
	t.Helper()
	at, code := seqrun.First(p)
	if code != api.OK {
		t.Fatalf("First is %d", code)
	}
	return at
}

func texts(l []api.Event) string {
	var s []string
	for _, e := range l {
		s = append(s, stamp.Text(e))
	}
	return strings.Join(s, " ")
}

func tellStates(l []api.State) string {
	var b strings.Builder
	for i, v := range l {
		fmt.Fprintf(&b, "%d: %v dice %d sent %d; ", i, v.Words, v.Dice, v.Sent)
	}
	return b.String()
}

// tellResult and tellPoint are all that is in a thing; lists that are empty look alike, nil or not.
func tellResult(r api.Result) string {
	return fmt.Sprintln("kind", r.Kind, "code", int(r.Code), "at", r.At, "window", r.Window) + tellStates(r.States) + "\ntrace " + texts(r.Trace)
}

func tellPoint(at api.Point) string {
	return tellStates(at.States) + "\npending " + texts(at.Pending) + "\ntrace " + texts(at.Trace)
}

// tellErr is an error's type and all that is in it.
func tellErr(err error) string {
	return fmt.Sprintf("%T %v around %T", err, err, errors.Unwrap(err))
}

// answer is what Record and Resume answer, point what Recover does, scan what Scan does, told.
func answer(b []byte, r api.Result, err error) string {
	return fmt.Sprintf("%x\n%s\n%s", b, tellResult(r), tellErr(err))
}

func point(at api.Point, number int, err error) string {
	return fmt.Sprintf("%s\nwindow %d\n%s", tellPoint(at), number, tellErr(err))
}

func scan(records, bytes int, err error) string {
	return fmt.Sprintf("records %d bytes %d %s", records, bytes, tellErr(err))
}

// atByte is a *api.ByteError.
func atByte(at int, code api.Errno) error { return &api.ByteError{At: at, Err: code} }

// same holds one told answer against another.
func same(t *testing.T, what any, got, want string) {
	t.Helper()
	if got != want {
		t.Fatalf("%v: the answer is\n%s\nnot\n%s", what, got, want)
	}
}

// chance is a row of numbers that look thrown, and are the same at every run.
type chance uint64

func (c *chance) next() uint64 {
	*c = *c*6364136223846793005 + 1442695040888963407
	x := uint64(*c)
	x ^= x >> 32
	return x * 11400714819323198485
}

func (c *chance) below(n int) int { return int(c.next() >> 33 % uint64(n)) }

func pick[T any](c *chance, l ...T) T { return l[c.below(len(l))] }

// spoil writes over a list and over the room behind its end.
func spoil[T any](l []T, with T) {
	l = l[:cap(l)]
	for i := range l {
		l[i] = with
	}
}
