package combine_test

import (
	"fmt"
	"math"
	"slices"
	"testing"

	"horizon/api"
	"horizon/combine"
)

// brackets joins two texts so that the joined one tells what was joined with what.
func brackets(a, b string) string { return "(" + a + "+" + b + ")" }

func minus(a, b int) int { return a - b }

func digits(a, b int) int { return 10*a + b }

// made is a net that was not refused.
func made[T any](t *testing.T, workers int, join func(a, b T) T) *combine.Net[T] {
	t.Helper()
	n, code := combine.New(workers, join)
	if n == nil || code != api.OK {
		t.Fatalf("New(%d) is %v, %d", workers, n, code)
	}
	return n
}

func madeBarrier(t *testing.T, workers int) *combine.Barrier {
	t.Helper()
	b, code := combine.NewBarrier(workers)
	if b == nil || code != api.OK {
		t.Fatalf("NewBarrier(%d) is %v, %d", workers, b, code)
	}
	return b
}

// looks is what can be asked of a net without changing anything.
type looks interface {
	Value(w int) (string, api.Errno)
	Rounds(w int) int
	Inside(w int) bool
	Cells() []api.Cell
}

// net is what both the program's net and the slow one are.
type net interface {
	looks
	Enter(w int, v string) api.Errno
	Step(w int) (bool, api.Errno)
}

// gate is what both the program's barrier and the slow one are.
type gate interface {
	net
	Wait(w int) (bool, api.Errno)
}

// plain shows a barrier as a net of texts, all of them empty.
type plain struct{ *combine.Barrier }

func (p plain) Enter(w int, v string) api.Errno { return p.Barrier.Enter(w, struct{}{}) }

func (p plain) Value(w int) (string, api.Errno) {
	_, code := p.Barrier.Value(w)
	return "", code
}

// call is a call that may change a net: its first letter, the worker, the value that it brings.
type call struct {
	name byte
	w    int
	v    string
}

func (c call) String() string { return fmt.Sprintf("%c(%d)", c.name, c.w) }

type answer struct {
	through bool
	code    api.Errno
}

func do(n net, c call) (a answer) {
	switch c.name {
	case 'E':
		a.code = n.Enter(c.w, c.v)
	case 'S':
		a.through, a.code = n.Step(c.w)
	case 'W':
		a.through, a.code = n.(gate).Wait(c.w)
	}
	return a
}

// seen is all that can be seen of a worker.
type seen struct {
	value  string
	code   api.Errno
	rounds int
	inside bool
}

// look is all that can be seen of workers, of those who are none too.
func look(n looks, workers int) (l []seen) {
	for w := -2; w < workers+2; w++ {
		v, code := n.Value(w)
		l = append(l, seen{v, code, n.Rounds(w), n.Inside(w)})
	}
	return l
}

func sameLook(t *testing.T, n net, s *slow, behind any) {
	t.Helper()
	if a, b := n.Cells(), s.Cells(); !slices.Equal(a, b) {
		t.Fatalf("behind %v the cells are %v, not %v", behind, a, b)
	}
	if a, b := look(n, s.workers), look(s, s.workers); !slices.Equal(a, b) {
		t.Fatalf("behind %v, from worker -2 on, the net is %v, not %v", behind, a, b)
	}
}

// alike makes a call on a net and on the slow one, and holds the answers, and all that can be seen behind them, against each other.
func alike(t *testing.T, n net, s *slow, c call) answer {
	t.Helper()
	a, b := do(n, c), do(s, c)
	if a != b {
		t.Fatalf("%v is %v, not %v", c, a, b)
	}
	sameLook(t, n, s, c)
	return a
}

// chance is a row of numbers that look thrown, and are the same at every run.
type chance uint64

func (c *chance) next() uint64 {
	*c = *c*6364136223846793005 + 1442695040888963407
	x := uint64(*c)
	x ^= x >> 32
	return x * 11400714819323198485
}

func (c *chance) below(n int) int { return int(c.next() >> 33 % uint64(n)) }

func pick[T any](c *chance, l []T) T { return l[c.below(len(l))] }

// worker is mostly one of so many, at times none.
func (c *chance) worker(workers int) int {
	if c.below(40) == 0 {
		return pick(c, []int{-1, workers, workers + 1, math.MinInt, math.MaxInt, 1 << 32})
	}
	return c.below(workers)
}

// shuffled is the workers in a thrown order.
func (c *chance) shuffled(workers int) []int {
	l := make([]int, workers)
	for i := range l {
		at := c.below(i + 1)
		l[i] = l[at]
		l[at] = i
	}
	return l
}

// thrown is any call, of these letters; what it brings is told from all else by its number.
func (c *chance) thrown(workers, number int, names string) call {
	return call{names[c.below(len(names))], c.worker(workers), fmt.Sprint(number)}
}

// spoil writes over a list and over the room behind its end.
func spoil[T any](l []T, with T) {
	l = l[:cap(l)]
	for i := range l {
		l[i] = with
	}
}
