package worker_test

import (
	"fmt"
	"strings"
	"testing"

	"horizon/api"
	"horizon/worker"
)

// maker throws plans that may be run, and layouts for them: handlers reckon, throw dice, send, and fail at times; layouts have much room or little.
type maker struct {
	chance
	parts, kinds, words int
	look                uint64
	labels              int
}

func (m *maker) label() string {
	m.labels++
	return fmt.Sprint("l", m.labels)
}

// value pushes one value.
func (m *maker) value() string {
	switch m.below(6) {
	case 0:
		return "data\n"
	case 1:
		return "now\n"
	case 2:
		return "from\n"
	case 3:
		return fmt.Sprint("push ", 1+m.below(9), "\nroll\n")
	case 4:
		if m.words > 0 {
			return fmt.Sprint("load ", m.below(m.words), "\n")
		}
	}
	return fmt.Sprint("push ", m.below(9)-3, "\n")
}

// save pops one value.
func (m *maker) save() string {
	if m.words == 0 {
		return "pop\n"
	}
	return fmt.Sprint("save ", m.below(m.words), "\n")
}

func (m *maker) target() string {
	switch m.below(5) {
	case 0:
		return "me\n"
	case 1:
		return fmt.Sprint("push ", m.below(m.parts), "\n")
	case 2:
		return fmt.Sprint("push ", m.parts, "\nroll\n")
	}
	return fmt.Sprint("me\npush ", 1+m.below(3), "\nadd\npush ", m.parts, "\nmod\n")
}

func (m *maker) delay() string {
	switch m.below(90) {
	case 0:
		return fmt.Sprint("push ", int64(m.look)-1, "\n") // one too early
	case 1, 2, 3, 4, 5, 6, 7, 8, 9, 10:
		return fmt.Sprint("push ", 1+m.below(6), "\nwait\npush ", m.look, "\nadd\n")
	}
	if m.below(3) == 0 {
		return fmt.Sprint("push ", m.look, "\n")
	}
	return fmt.Sprint("push ", 1+m.below(9), "\nroll\npush ", m.look, "\nadd\n")
}

func (m *maker) send() string {
	return m.value() + m.target() + m.delay() + fmt.Sprint("send ", m.below(m.kinds), "\n")
}

// seldom does what is handed in now and then, by a value.
func (m *maker) seldom(one int, what string) string {
	skip := m.label()
	return m.value() + fmt.Sprint("push ", one, "\nmod\npush 1\neq\nzero ", skip, "\n") + what + skip + ":\n"
}

func (m *maker) piece() string {
	switch m.below(16) {
	case 0:
		return m.seldom(13, "push 0\nfail\n")
	case 1, 2, 3:
		return m.seldom(2, m.send())
	case 4:
		return m.value() + m.value() + "mul\n" + m.save()
	case 5, 6, 7, 8:
		return m.value() + m.value() + "add\n" + m.save()
	}
	return m.send()
}

// listing is a program's, with a handler for most kinds.
func (m *maker) listing() string {
	var heads []string
	var body strings.Builder
	for range m.kinds {
		if m.below(12) == 0 {
			heads = append(heads, "-")
			continue
		}
		name := m.label()
		heads = append(heads, name)
		body.WriteString(name + ":\n")
		for range 1 + m.below(5) {
			body.WriteString(m.piece())
		}
		body.WriteString("stop\n")
	}
	return fmt.Sprint("words ", m.words, "\nlocals 1\nentry ", strings.Join(heads, " "), "\n", body.String())
}

// plan is a thrown plan; at times one without parts, kinds or starts.
func (m *maker) plan(t *testing.T) api.Plan {
	t.Helper()
	m.parts, m.kinds = 1+m.below(6), 1+m.below(3)
	m.look = uint64(1 + m.below(6))
	p := api.Plan{Kinds: m.kinds, Seed: m.next(), Look: m.look, End: uint64(5 + m.below(50)), Budget: m.below(40), Fuel: 30 + m.below(60)}
	for range 1 + m.below(3) {
		m.words = m.below(4)
		p.Programs = append(p.Programs, program(t, m.listing()))
	}
	for range m.parts {
		p.Parts = append(p.Parts, m.part(p))
	}
	for range 1 + m.below(9) {
		p.Starts = append(p.Starts, m.start())
	}
	return m.bare(m.late(p))
}

func (m *maker) part(p api.Plan) api.Part {
	part := api.Part{Program: m.below(len(p.Programs))}
	for range p.Programs[part.Program].Words {
		part.Words = append(part.Words, int64(m.below(20)-5))
	}
	return part
}

func (m *maker) start() api.Start {
	return api.Start{Time: uint64(m.below(12)), Dst: m.below(m.parts), Kind: m.below(m.kinds), Data: int64(m.below(30))}
}

// late moves a plan to the end of time, seldom.
func (m *maker) late(p api.Plan) api.Plan {
	if m.below(20) > 0 {
		return p
	}
	p.End = most - uint64(m.below(3))
	for i := range p.Starts {
		p.Starts[i].Time = most - 30 + p.Starts[i].Time
	}
	return p
}

// bare takes something out of a plan, seldom.
func (m *maker) bare(p api.Plan) api.Plan {
	switch m.below(100) {
	case 0:
		p.Parts, p.Starts = nil, nil
	case 1:
		p.Programs, p.Parts, p.Starts, p.Kinds = nil, nil, nil, m.below(33)
	case 2:
		p.Starts = nil
	case 3:
		p.End = 0
	}
	return p
}

// layout is a thrown layout that is valid for the plan.
func (m *maker) layout(p api.Plan) api.Layout {
	l := layout(pick(&m.chance, []int{1, 2, 2, 3, 3, 4, 5, 8}))
	for range p.Parts {
		l.Owner = append(l.Owner, m.below(l.Workers))
	}
	if m.below(3) == 0 {
		l.Box = 1 + m.below(4)
	}
	if m.below(3) == 0 {
		l.Undo = 1 + m.below(6)
	}
	if m.below(3) == 0 {
		for l.Arena = 1; worker.Valid(p, l) == api.ErrArena; l.Arena++ {
		}
		l.Arena += m.below(6)
	}
	return l
}

// 13.7: what maker throws may be run, and ends in all ways, with every lack of room: else the tests that lean on it would look at nothing.
func TestThrownPlans(t *testing.T) {
	m := maker{chance: 13}
	kinds, lacks := map[int]int{}, map[string]int{}
	executed, chosen, later := 0, 0, 0
	for range 3000 {
		p := m.plan(t)
		l := m.layout(p)
		if code := worker.Valid(p, l); code != api.OK {
			t.Fatalf("Valid is %d", code)
		}
		r, why := inWindows(p, l)
		kinds[r.Kind]++
		lacks[why]++
		executed += len(r.Trace)
		if r.Kind == api.Resource && r.Window > 2 {
			later++
		}
		if r.Kind == api.Cut && len(r.Trace) > 0 {
			chosen++
		}
	}
	if kinds[api.Done] < 300 || kinds[api.Cut] < 300 || kinds[api.Fault] < 300 || kinds[api.Resource] < 300 || executed < 15000 || chosen < 200 || later < 100 {
		t.Errorf("kinds %v, %d events, %d cut behind an event, %d lacks behind window 2", kinds, executed, chosen, later)
	}
	for _, why := range []string{"drain", "undo", "queue", "box"} {
		if lacks[why] < 50 {
			t.Errorf("no room in %s only %d times", why, lacks[why])
		}
	}
}
