package report_test

import (
	"fmt"
	"math"
	"strings"
	"testing"

	"horizon/api"
	"horizon/codegen"
	"horizon/stamp"
)

// clockwork is the plan Q of chapter 12's examples, changed: each part sends itself an event after 5, and counts.
func clockwork(changes ...func(p *api.Plan)) api.Plan {
	code := []api.Instr{{Op: api.IPush}, {Op: api.IMe}, {Op: api.IPush, A: 5}, {Op: api.ISend}, {Op: api.ILoad}, {Op: api.IPush, A: 1}, {Op: api.IAdd}, {Op: api.ISave}, {Op: api.IStop}}
	p := api.Plan{
		Kinds:    1,
		Programs: []api.Program{{Words: 1, Code: code, Entry: []int{0}}},
		Parts:    []api.Part{{Words: []int64{0}}, {Words: []int64{10}}},
		Starts:   []api.Start{{Data: 1}, {Time: 3, Dst: 1, Data: 2}},
		Seed:     7, Look: 5, End: 14, Budget: 100, Fuel: 20,
	}
	for _, change := range changes {
		change(&p)
	}
	return p
}

// shop is the model of DOC.md's section on the language.
const shop = `look 5  end 200  budget 300  seed 7
const N = 4
kind job, done
type Shop {
  var waiting
  var busy
  var served[2]
  on job(size) {
    waiting = waiting + 1
    if busy == 0 {
      busy = 1
      send done(size) to me after 5 + roll(10)
    }
  }
  on done(size) {
    waiting = waiting - 1
    served[size % 2] = served[size % 2] + 1
    busy = 0
    if waiting > 0 { busy = 1 send done(size + 1) to me after 5 + roll(10) }
    send job(size) to shop[(me + 1) % N] after 6
  }
}
place shop[N] : Shop (waiting = 0)
start job(3) to shop[0] at 0
start job(8) to shop[2] at 4
`

// scenario is the plan of a text.
func scenario(t *testing.T, text string) api.Plan {
	t.Helper()
	p, err := codegen.Plan(text)
	if err != nil {
		t.Fatalf("%v in\n%s", err, text)
	}
	return p
}

// events is the result whose trace has the events of these texts.
func events(t *testing.T, list ...string) (r api.Result) {
	t.Helper()
	for _, s := range list {
		e, code := stamp.Parse(s)
		if code != api.OK {
			t.Fatalf("%q is no event", s)
		}
		r.Trace = append(r.Trace, e)
	}
	return r
}

func texts(l []api.Event) string {
	var s []string
	for _, e := range l {
		s = append(s, stamp.Text(e))
	}
	return strings.Join(s, " ")
}

// told is a list and an error; lists that are empty look alike, nil or not.
func told[T any](l []T, code api.Errno) string { return fmt.Sprintf("%+v, %d", l, int(code)) }

// mean is what Mean answers, to the last bit.
func mean(x float64, code api.Errno) string {
	return fmt.Sprintf("%v (%x), %d", x, math.Float64bits(x), int(code))
}

// same holds one told answer against another.
func same(t *testing.T, what any, got, want string) {
	t.Helper()
	if got != want {
		t.Fatalf("%v: the answer is\n%s\nnot\n%s", what, got, want)
	}
}

// chance is a row of numbers that look thrown, and are the same at every run.
type chance uint64

func (c *chance) next() uint64 {
	*c = *c*6364136223846793005 + 1442695040888963407
	x := uint64(*c)
	x ^= x >> 32
	return x * 11400714819323198485
}

func (c *chance) below(n int) int { return int(c.next() >> 33 % uint64(n)) }

func pick[T any](c *chance, l ...T) T { return l[c.below(len(l))] }

// spoil writes over a list and over the room behind its end.
func spoil[T any](l []T, with T) {
	l = l[:cap(l)]
	for i := range l {
		l[i] = with
	}
}
