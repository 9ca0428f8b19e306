package warp_test

import (
	"fmt"
	"math"
	"strings"
	"testing"

	"horizon/api"
	"horizon/seqrun"
	"horizon/worker"
)

// maker throws scenarios, and layouts for their plans: handlers reckon, throw dice, send, and fail at times, some of them only when they are run too early.
type maker struct {
	chance
	parts, kinds int
	look         int
}

func (m *maker) kind() string { return fmt.Sprint("k", m.below(m.kinds)) }

func (m *maker) value() string {
	return pick(&m.chance, "x", "n", "now", "from", "x + 1", "roll(9)", fmt.Sprint(m.below(30)))
}

func (m *maker) send() string {
	to := pick(&m.chance, "me", "from", fmt.Sprint("roll(", m.parts, ")"), fmt.Sprint("(me + 1) % ", m.parts), fmt.Sprint("(me + 1) % ", m.parts), fmt.Sprint("(n & 63) % ", m.parts), fmt.Sprint(m.below(m.parts)))
	after := pick(&m.chance, "", "", fmt.Sprint(" + roll(", 1+m.below(9), ")"), fmt.Sprint(" + roll(", 1+m.below(9), ")"), fmt.Sprint(" + wait(", 1+m.below(6), ")"))
	if m.below(60) == 0 {
		after = " - 1" // one too early
	}
	return fmt.Sprint("send ", m.kind(), "(", m.value(), ") to ", to, " after ", m.look, after)
}

func (m *maker) statement() string {
	switch m.below(14) {
	case 0:
		return fmt.Sprint("if (", m.value(), ") % 17 == 1 { fail n }")
	case 1, 2:
		return fmt.Sprint("if roll(2) == 0 { ", m.send(), " }")
	case 3:
		return fmt.Sprint("r[now & 1] = ", m.value())
	case 4:
		return "r[1] = r[1] + 1 if r[1] * 9 < now - 12 { fail 1 }"
	case 5, 6:
		return fmt.Sprint("n = n * 3 + ", m.value())
	}
	return m.send()
}

func (m *maker) kindOfPart(name string) string {
	var b strings.Builder
	fmt.Fprintln(&b, "type", name, "{ var n =", m.below(9), "var r[2]")
	for k := range m.kinds {
		if m.below(12) == 0 {
			continue
		}
		fmt.Fprintln(&b, "on", fmt.Sprint("k", k, "(x)"), "{")
		for range 2 + m.below(3) {
			fmt.Fprintln(&b, m.statement())
		}
		fmt.Fprintln(&b, "}")
	}
	return b.String() + "}\n"
}

func (m *maker) text() string {
	m.parts, m.kinds, m.look = 1+m.below(6), 1+m.below(3), 1+m.below(4)
	var b strings.Builder
	fmt.Fprintln(&b, "seed", m.below(1000), "look", m.look, "end", 5+m.below(70), "budget", m.below(60), "fuel", 40+m.below(200))
	for k := range m.kinds {
		fmt.Fprintln(&b, "kind", fmt.Sprint("k", k))
	}
	b.WriteString(m.kindOfPart("A") + m.kindOfPart("B"))
	for i := range m.parts {
		fmt.Fprintln(&b, "place", fmt.Sprint("p", i), ":", pick(&m.chance, "A", "B"))
	}
	for range 1 + m.below(9) {
		fmt.Fprintln(&b, "start", m.kind()+fmt.Sprint("(", m.below(30), ")"), "to", fmt.Sprint("p", m.below(m.parts)), "at", m.below(25))
	}
	return b.String()
}

// plan is a thrown plan; at times one at the end of time, without starts, or without anything.
func (m *maker) plan(t *testing.T) api.Plan {
	t.Helper()
	p := scenario(t, m.text())
	switch m.below(60) {
	case 0:
		p.Parts, p.Starts = nil, nil
	case 1:
		p.Starts = nil
	case 2:
		p.End = 0
	case 3, 4:
		p.End = math.MaxUint64 - uint64(m.below(3))
		for i := range p.Starts {
			p.Starts[i].Time += math.MaxUint64 - 30
		}
	}
	return p
}

// layout is a thrown layout that is valid for the plan.
func (m *maker) layout(p api.Plan) api.Layout {
	l := wide(pick(&m.chance, 1, 2, 2, 3, 3, 4, 5, 9))
	for range p.Parts {
		l.Owner = append(l.Owner, m.below(l.Workers))
	}
	if m.below(3) == 0 {
		l.Box = 1
		for l.Arena = 1; worker.Valid(p, l) == api.ErrArena; l.Arena++ {
		}
	}
	if m.below(3) == 0 {
		l.Undo = 1 + m.below(6)
	}
	return l
}

// picks is a thrown list of picks: by turns, backwards, thrown, or in runs of one worker; Gathers are often or seldom; some numbers say nothing.
func (m *maker) picks(workers, n int) []int {
	way, hog, seldom := m.below(4), m.below(workers), pick(&m.chance, 5, 15, 60)
	var l []int
	for i := range n {
		w := m.below(workers)
		switch {
		case way == 0:
			w = i % workers
		case way == 1:
			w = workers - 1 - i%workers
		case way == 2 && m.below(20) == 0:
			hog = w
		case way == 2 && m.below(5) > 0:
			w = hog
		}
		if m.below(seldom) == 0 {
			w = workers
		}
		if m.below(50) == 0 {
			w = pick(&m.chance, append(strange(), workers+1)...)
		}
		l = append(l, w)
	}
	return l
}

// 18.8: what maker throws may be run, ends in all ways, and does on its way all that the chapter speaks of: else the tests that lean on it would look at nothing.
func TestThrownPlans(t *testing.T) {
	m := maker{chance: 18}
	kinds, did := map[int]int{}, map[int]int{}
	undone, fetched, rested, dropped, chased := 0, 0, 0, 0, 0
	for range 1500 {
		p := m.plan(t)
		l := m.layout(p)
		if code := worker.Valid(p, l); code != api.OK {
			t.Fatalf("Valid is %d", code)
		}
		kinds[seqrun.Run(p).Kind]++
		s, faulty := newSlow(p, l), false
		for _, pick := range m.picks(l.Workers, 120) {
			if s.Over() || s.cost > 20000 {
				break
			}
			if pick != l.Workers {
				now, _ := s.Step(pick)
				did[now]++
				faulty = faulty || now == api.WarpStuck
				continue
			}
			back, done := 0, 0
			for _, w := range s.workers {
				back += w.Back
				done += len(w.Done)
			}
			n, _ := s.Gather()
			for _, w := range s.workers {
				back -= w.Back
			}
			if back < 0 {
				chased++
			}
			if s.Over() && n < done+back {
				dropped++
			}
		}
		if faulty && s.end.Kind != api.Fault && s.Over() {
			rested++
		}
		for _, w := range s.workers {
			undone += w.Back
			fetched += w.Anti
		}
	}
	if kinds[api.Done] < 200 || kinds[api.Cut] < 200 || kinds[api.Fault] < 200 || undone < 2000 || fetched < 2000 || rested < 20 || dropped < 200 || chased < 100 {
		t.Errorf("kinds %v, %d undone, %d fetched back, %d stuck only for a while, %d dropped, %d times undone by a Gather", kinds, undone, fetched, rested, dropped, chased)
	}
	for _, now := range []int{api.WarpIdle, api.WarpRan, api.WarpStuck, api.WarpFull} {
		if did[now] < 500 {
			t.Errorf("steps %v", did)
		}
	}
}
