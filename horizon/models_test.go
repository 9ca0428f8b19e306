package horizon_test

import (
	"fmt"
	"strings"
	"testing"

	"horizon/api"
	"horizon/seqrun"
	"horizon/worker"
)

// maker throws scenarios, and layouts for their plans: handlers reckon, throw dice, send, and fail at times; layouts have much room or little.
type maker struct {
	chance
	parts, kinds int
	look         int
}

func (m *maker) kind() string { return fmt.Sprint("k", m.below(m.kinds)) }

func (m *maker) value() string {
	return pick(&m.chance, "x", "n", "now", "from", "x + 1", "roll(9)", fmt.Sprint(m.below(30)))
}

func (m *maker) send() string {
	to := pick(&m.chance, "me", "from", fmt.Sprint("roll(", m.parts, ")"), fmt.Sprint("(me + 1) % ", m.parts), fmt.Sprint(m.below(m.parts)))
	after := pick(&m.chance, "", "", fmt.Sprint(" + roll(", 1+m.below(9), ")"), fmt.Sprint(" + wait(", 1+m.below(6), ")"))
	if m.below(60) == 0 {
		after = " - 1" // one too early
	}
	return fmt.Sprint("send ", m.kind(), "(", m.value(), ") to ", to, " after ", m.look, after)
}

func (m *maker) statement() string {
	switch m.below(12) {
	case 0:
		return fmt.Sprint("if (", m.value(), ") % 17 == 1 { fail n }")
	case 1, 2:
		return fmt.Sprint("if roll(2) == 0 { ", m.send(), " }")
	case 3:
		return fmt.Sprint("r[now & 1] = ", m.value())
	case 4, 5:
		return fmt.Sprint("n = n * -3 + ", m.value())
	}
	return m.send()
}

func (m *maker) kindOfPart(name string) string {
	var b strings.Builder
	fmt.Fprintln(&b, "type", name, "{ var n =", m.below(9), "var r[2]")
	for k := range m.kinds {
		if m.below(8) == 0 {
			continue
		}
		fmt.Fprintln(&b, "on", fmt.Sprint("k", k, "(x)"), "{")
		for range 1 + m.below(4) {
			fmt.Fprintln(&b, m.statement())
		}
		fmt.Fprintln(&b, "}")
	}
	return b.String() + "}\n"
}

// places is some parts by themselves, p0 and so on, and one row of the others, at times, q.
func (m *maker) places() string {
	var b strings.Builder
	row := m.below(3)
	if m.below(2) == 0 || row >= m.parts {
		row = 0
	}
	for i := range m.parts - row {
		fmt.Fprintln(&b, "place", fmt.Sprint("p", i), ":", pick(&m.chance, "A", "B"))
	}
	if row > 0 {
		fmt.Fprintln(&b, "place", fmt.Sprint("q[", row, "]"), ":", pick(&m.chance, "A", "B"))
	}
	return b.String()
}

// text is a thrown scenario; at times one without starts, or one in which nothing is ahead of the end.
func (m *maker) text() string {
	m.parts, m.kinds, m.look = 1+m.below(6), 1+m.below(3), 1+m.below(6)
	end, starts := 5+m.below(50), 1+m.below(6)
	switch m.below(40) {
	case 0:
		end = 0
	case 1:
		starts = 0
	}
	var b strings.Builder
	fmt.Fprintln(&b, "seed", m.below(1000), "look", m.look, "end", end, "budget", m.below(60), "fuel", 40+m.below(200))
	for k := range m.kinds {
		fmt.Fprintln(&b, "kind", fmt.Sprint("k", k))
	}
	b.WriteString(m.kindOfPart("A") + m.kindOfPart("B") + m.places())
	for range starts {
		fmt.Fprintln(&b, "start", m.kind()+fmt.Sprint("(", m.below(30), ")"), "to p0 at", m.below(12))
	}
	return b.String()
}

// layout is a thrown layout that is valid for the plan.
func (m *maker) layout(p api.Plan) api.Layout {
	l := m.roomy(p)
	if m.below(3) == 0 {
		l.Box = 1 + m.below(4)
	}
	if m.below(3) == 0 {
		l.Undo = 1 + m.below(6)
	}
	if m.below(3) == 0 {
		for l.Arena = 1; worker.Valid(p, l) == api.ErrArena; l.Arena++ {
		}
		l.Arena += m.below(6)
	}
	return l
}

// roomy is a thrown layout in which nobody lacks room.
func (m *maker) roomy(p api.Plan) api.Layout {
	l := wide(pick(&m.chance, 1, 2, 2, 3, 3, 4, 5, 8))
	for range p.Parts {
		l.Owner = append(l.Owner, m.below(l.Workers))
	}
	return l
}

func (m *maker) picks(workers int) (l []int) {
	for range m.below(300) {
		l = append(l, m.below(workers+2)-1)
	}
	return l
}

// 19.4: what maker throws may be run, and ends in all ways: else the tests that lean on it would look at nothing.
func TestThrownScenarios(t *testing.T) {
	m := maker{chance: 19}
	kinds, events := map[int]int{}, 0
	for range 1000 {
		p := scenario(t, m.text())
		if code := worker.Valid(p, m.layout(p)); code != api.OK {
			t.Fatalf("Valid is %d", code)
		}
		r := seqrun.Run(p)
		kinds[r.Kind]++
		events += len(r.Trace)
	}
	if kinds[api.Done] < 100 || kinds[api.Cut] < 100 || kinds[api.Fault] < 100 || events < 5000 {
		t.Errorf("kinds %v, %d events", kinds, events)
	}
}
