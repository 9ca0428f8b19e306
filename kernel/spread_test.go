package kernel_test

import (
	"math"
	"slices"
	"testing"

	"horizon/api"
	"horizon/kernel"
	"horizon/seqrun"
	"horizon/worker"
)

// parts is a plan of so many parts, to which as many starts go as are listed; part i has the program i * i modulo the number of programs.
func parts(n, programs int, starts ...int) api.Plan {
	p := adds()
	p.Programs = slices.Repeat(p.Programs, programs)
	p.Parts, p.Starts = nil, nil
	for i := range n {
		p.Parts = append(p.Parts, api.Part{Program: i * i % programs, Words: []int64{0}})
	}
	for most := slices.Max(append(starts, 0)); most > 0; most-- {
		for part, many := range starts {
			if many >= most {
				p.Starts = append(p.Starts, api.Start{Time: uint64(most * 7), Dst: part})
			}
		}
	}
	return p
}

// spread is a layout that was not refused, with as much room as can be.
func spread(t *testing.T, p api.Plan, workers, way int) []int {
	t.Helper()
	l, code := kernel.Spread(p, workers, way)
	if code != api.OK || l.Workers != workers || l.Arena != 8192 || l.Box != 1024 || l.Undo != 4096 || len(l.Owner) != len(p.Parts) {
		t.Fatalf("Spread(.., %d, %d) is %v, %d", workers, way, l, code)
	}
	if code := worker.Valid(p, l); code != api.OK {
		t.Fatalf("Spread(.., %d, %d) is not valid: %d", workers, way, code)
	}
	return l.Owner
}

// 14.7: owners reckoned by hand.
func TestSpreadByHand(t *testing.T) {
	for _, x := range []struct {
		plan         api.Plan
		workers, way int
		owner        []int
	}{
		{parts(7, 1), 3, 1, []int{0, 1, 2, 0, 1, 2, 0}},
		{parts(7, 1), 3, 2, []int{0, 0, 0, 1, 1, 2, 2}},
		{parts(3, 1), 7, 1, []int{0, 1, 2}},
		{parts(3, 1), 7, 2, []int{0, 2, 4}},
		{parts(4, 1), 64, 2, []int{0, 16, 32, 48}},
		{parts(6, 5), 4, 4, []int{0, 1, 0, 0, 1, 0}}, // the programs 0, 1, 4, 4, 1, 0
		{parts(6, 5), 5, 4, []int{0, 1, 4, 4, 1, 0}},
		{parts(6, 5), 64, 4, []int{0, 1, 4, 4, 1, 0}},
		{parts(5, 1), 3, 3, []int{0, 1, 2, 0, 1}},                      // all weigh the same
		{parts(5, 1), 64, 3, []int{0, 1, 2, 3, 4}},                     // nobody gets a second one
		{parts(4, 1, 0, 1, 2, 3), 2, 3, []int{0, 1, 1, 0}},             // 3 to 0, 2 to 1, 1 to 1, 0 to 0
		{parts(6, 1, 0, 0, 0, 9, 0, 0), 3, 3, []int{1, 2, 1, 0, 2, 1}}, // 3 to 0, the others to 1 and 2 by turns
		{parts(6, 1, 4, 4, 1, 1, 1, 0), 2, 3, []int{0, 1, 0, 1, 0, 1}}, // weights 5 5 2 2 2 1
		{parts(5, 1, 2, 2, 3, 3, 3), 2, 3, []int{1, 1, 0, 1, 0}},       // 2 to 0, 3 to 1, 4 to 0, 0 to 1, 1 to 1
		{parts(3, 1, 0, 1), 1, 3, []int{0, 0, 0}},                      // one worker owns all
		{parts(64, 16), 1, 4, make([]int, 64)},
		{parts(0, 1), 5, 1, nil}, {parts(0, 1), 5, 2, nil}, // no parts
		{parts(0, 1), 5, 3, nil}, {parts(0, 1), 64, 4, nil},
		{api.Plan{Look: 1, Fuel: 1}, 1, 3, nil},                             // nothing at all
		{parts(1, 1, 256), 64, 3, []int{0}}, {parts(1, 1), 64, 2, []int{0}}, // one part
	} {
		if got := spread(t, x.plan, x.workers, x.way); !slices.Equal(got, x.owner) {
			t.Errorf("Spread(.., %d, %d) has the owners %v, not %v", x.workers, x.way, got, x.owner)
		}
	}
}

// slowOwners is 14.7 a second time, word by word.
func slowOwners(p api.Plan, workers, way int) []int {
	l := make([]int, len(p.Parts))
	weight := make([]int, len(p.Parts))
	for i, part := range p.Parts {
		switch way {
		case 1:
			l[i] = i - i/workers*workers
		case 2:
			for (l[i]+1)*len(p.Parts) <= i*workers {
				l[i]++
			}
		case 4:
			l[i] = part.Program - part.Program/workers*workers
		}
		weight[i] = 1
		for _, start := range p.Starts {
			if start.Dst == i {
				weight[i]++
			}
		}
	}
	if way != 3 {
		return l
	}
	has := map[int]int{}
	for range weight {
		heaviest := 0
		for i, w := range weight {
			if w > weight[heaviest] {
				heaviest = i
			}
		}
		least := 0
		for w := range workers {
			if has[w] < has[least] {
				least = w
			}
		}
		l[heaviest] = least
		has[least] += weight[heaviest]
		weight[heaviest] = 0
	}
	return l
}

// 14.7: thrown plans for thrown numbers of workers, by all ways.
func TestSpreadThrown(t *testing.T) {
	c := chance(147)
	for range 600 {
		n := c.below(65)
		p := parts(n, 1+c.below(16))
		for i := range p.Parts {
			p.Parts[i].Program = c.below(len(p.Programs))
		}
		few := 1 + c.below(max(n, 1))
		for many := c.below(257); many > 0 && n > 0; many-- {
			p.Starts = append(p.Starts, api.Start{Time: c.next(), Dst: c.below(few)})
		}
		workers := pick(&c, 1, 2, 3, 1+c.below(64), 64)
		for way := 1; way <= 4; way++ {
			if got, want := spread(t, p, workers, way), slowOwners(p, workers, way); !slices.Equal(got, want) {
				t.Fatalf("%d parts, %d workers, way %d: the owners are %v, not %v", n, workers, way, got, want)
			}
		}
	}
}

// 14.7: what is refused, and which reason goes first; with an error there is no layout.
func TestSpreadRefused(t *testing.T) {
	bad := adds(func(p *api.Plan) { p.Kinds = 33 })
	for _, x := range []struct {
		plan         api.Plan
		workers, way int
		code         api.Errno
	}{
		{bad, 1, 1, api.ErrKinds},
		{bad, 0, 0, api.ErrKinds},
		{api.Plan{}, 65, 9, api.ErrLook},
		{adds(budget(-1)), 1, 9, api.ErrBudget},
		{adds(), 0, 1, api.ErrWorkers},
		{adds(), 0, 0, api.ErrWorkers},
		{adds(), -1, 1, api.ErrWorkers},
		{adds(), 65, 1, api.ErrWorkers},
		{adds(), math.MinInt, 1, api.ErrWorkers},
		{adds(), math.MaxInt, 5, api.ErrWorkers},
		{adds(), 1, 0, api.ErrArg},
		{adds(), 1, 5, api.ErrArg},
		{adds(), 64, -1, api.ErrArg},
		{adds(), 64, math.MinInt, api.ErrArg},
		{adds(), 64, math.MaxInt, api.ErrArg},
	} {
		l, code := kernel.Spread(x.plan, x.workers, x.way)
		if code != x.code || l.Workers != 0 || l.Owner != nil || l.Arena != 0 || l.Box != 0 || l.Undo != 0 {
			t.Errorf("Spread(.., %d, %d) is %v, %d, not %d", x.workers, x.way, l, code, x.code)
		}
	}
}

// 14.7, 14.9: however a plan is spread, it ends as in the order of keys.
func TestSpreadRuns(t *testing.T) {
	m := maker{chance: 1479}
	for range 60 {
		p := m.plan(t)
		want := seqrun.Run(p)
		for way := 1; way <= 4; way++ {
			for _, workers := range []int{1, 2, 5, 64} {
				l, _ := kernel.Spread(p, workers, way)
				r, err := kernel.Fair(p, l, kernel.Enough(p, l))
				wantAnswer(t, way, r, err, want)
			}
		}
	}
}
