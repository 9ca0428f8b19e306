package mailbox_test

import (
	"fmt"
	"math"
	"slices"
	"testing"

	"horizon/api"
	"horizon/mailbox"
)

// thing is told from all others by its name; only its rank is compared.
type thing struct{ rank, name int }

func byRank(a, b thing) int { return a.rank - b.rank }

func byNumber(a, b int) int { return a - b }

// made is a post that was not refused.
func made[T any](t *testing.T, workers, room int, compare func(a, b T) int) *mailbox.Post[T] {
	t.Helper()
	p, code := mailbox.New(workers, room, compare)
	if p == nil || code != api.OK {
		t.Fatalf("New(%d, %d) is %v, %d", workers, room, p, code)
	}
	return p
}

// post is what both the program's post and the slow one are.
type post interface {
	Send(from, to int, v thing) api.Errno
	Flip(w int) api.Errno
	Phase(w int) int
	Drain(to int) ([]thing, api.Errno)
	Drop(from int) (int, api.Errno)
	Waiting(to int) (int, api.Errno)
	Err(from int) api.Errno
}

// call is a call that may change a post: its first letter (B is Drop), its workers, and what is sent.
type call struct {
	name  byte
	w, to int
	v     thing
}

func (c call) String() string {
	if c.name == 'S' {
		return fmt.Sprintf("Send(%d, %d, %v)", c.w, c.to, c.v)
	}
	return fmt.Sprintf("%c(%d)", c.name, c.w)
}

type answer struct {
	code  api.Errno
	list  []thing
	count int
}

func do(p post, c call) (a answer) {
	switch c.name {
	case 'S':
		a.code = p.Send(c.w, c.to, c.v)
	case 'F':
		a.code = p.Flip(c.w)
	case 'D':
		a.list, a.code = p.Drain(c.w)
	case 'B':
		a.count, a.code = p.Drop(c.w)
	}
	return a
}

func sameAnswer(a, b answer) bool {
	return a.code == b.code && a.count == b.count && slices.Equal(a.list, b.list)
}

// seen is all that can be seen of a worker without changing anything.
type seen struct {
	phase, waiting int
	code, err      api.Errno
}

// look is all that can be seen of a post, of those who are no workers too.
func look(p post, workers int) (l []seen) {
	for w := -2; w < workers+2; w++ {
		n, code := p.Waiting(w)
		l = append(l, seen{p.Phase(w), n, code, p.Err(w)})
	}
	return l
}

// alike makes a call on a post and on the slow one, and holds the answers, and all that can be seen behind them, against each other.
func alike(t *testing.T, p post, s *slow, c call) answer {
	t.Helper()
	a, b := do(p, c), do(s, c)
	if !sameAnswer(a, b) {
		t.Fatalf("%v is %v, not %v", c, a, b)
	}
	if a, b := look(p, len(s.phases)), look(s, len(s.phases)); !slices.Equal(a, b) {
		t.Fatalf("behind %v, from worker -2 on, the post is %v, not %v", c, a, b)
	}
	return a
}

// chance is a row of numbers that look thrown, and are the same at every run.
type chance uint64

func (c *chance) next() uint64 {
	*c = *c*6364136223846793005 + 1442695040888963407
	x := uint64(*c)
	x ^= x >> 32
	return x * 11400714819323198485
}

func (c *chance) below(n int) int { return int(c.next() >> 33 % uint64(n)) }

func pick[T any](c *chance, l []T) T { return l[c.below(len(l))] }

// worker is mostly one of so many, at times none.
func (c *chance) worker(workers int) int {
	if c.below(60) == 0 {
		return pick(c, []int{-1, workers, workers + 1, math.MinInt, math.MaxInt, 1 << 32})
	}
	return c.below(workers)
}

// spoil writes over a list and over the room behind its end.
func spoil[T any](l []T, with T) {
	l = l[:cap(l)]
	for i := range l {
		l[i] = with
	}
}
