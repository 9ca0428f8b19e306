package seqrun_test

import (
	"fmt"
	"strings"
	"testing"

	"horizon/api"
)

// maker throws plans that may be run: their handlers reckon, throw dice, send, loop, and fail at times.
type maker struct {
	chance
	parts, kinds, words int
	look                uint64
	labels              int
}

func (m *maker) label() string {
	m.labels++
	return fmt.Sprint("l", m.labels)
}

// value pushes one value.
func (m *maker) value() string {
	switch m.below(6) {
	case 0:
		return "data\n"
	case 1:
		return "now\n"
	case 2:
		return "from\n"
	case 3:
		return fmt.Sprint("push ", 1+m.below(9), "\nroll\n")
	case 4:
		if m.words > 0 {
			return fmt.Sprint("load ", m.below(m.words), "\n")
		}
	}
	return fmt.Sprint("push ", m.below(9)-3, "\n")
}

// save pops one value.
func (m *maker) save() string {
	if m.words == 0 {
		return "pop\n"
	}
	return fmt.Sprint("save ", m.below(m.words), "\n")
}

func (m *maker) target() string {
	switch m.below(40) {
	case 0:
		return m.value() // no part, maybe
	case 1, 2, 3, 4, 5, 6, 7, 8, 9, 10:
		return "me\n"
	case 11, 12, 13, 14, 15, 16, 17, 18, 19, 20:
		return fmt.Sprint("push ", m.below(m.parts), "\n")
	case 21, 22, 23, 24, 25:
		return fmt.Sprint("push ", m.parts, "\nroll\n")
	}
	return fmt.Sprint("me\npush ", 1+m.below(3), "\nadd\npush ", m.parts, "\nmod\n")
}

func (m *maker) delay() string {
	switch m.below(40) {
	case 0:
		return fmt.Sprint("push ", int64(m.look)-1, "\n") // one too early
	case 1, 2, 3, 4, 5, 6, 7, 8, 9, 10, 11, 12:
		return fmt.Sprint("push ", m.look, "\n")
	case 13, 14, 15, 16:
		return fmt.Sprint("push ", 1+m.below(6), "\nwait\npush ", m.look, "\nadd\n")
	case 17, 18, 19, 20, 21:
		return fmt.Sprint("push ", 1+m.below(12), "\nroll\npush ", m.look, "\nadd\n")
	}
	return fmt.Sprint("push ", m.look+uint64(m.below(9)), "\n")
}

func (m *maker) send() string {
	return m.value() + m.target() + m.delay() + fmt.Sprint("send ", m.below(m.kinds), "\n")
}

// now and then, by a value: what is handed in.
func (m *maker) seldom(one int, what string) string {
	skip := m.label()
	return m.value() + fmt.Sprint("push ", one, "\nmod\npush 1\neq\nzero ", skip, "\n") + what + skip + ":\n"
}

// loop takes fuel, as much as a die says.
func (m *maker) loop() string {
	top, out := m.label(), m.label()
	return fmt.Sprint("push ", 1+m.below(6), "\nroll\nput 0\n", top, ": get 0\nzero ", out, "\nget 0\npush 1\nsub\nput 0\njump ", top, "\n", out, ":\n")
}

func (m *maker) piece() string {
	switch m.below(16) {
	case 0:
		return m.loop()
	case 1:
		return m.seldom(29, "push 0\nfail\n")
	case 2:
		return m.seldom(2, m.send())
	case 3:
		return m.value() + m.value() + "mul\n" + m.save()
	case 4:
		return m.value() + "wait\n" + m.save() // fails, if the value is below 1
	case 5, 6, 7, 8, 9:
		return m.value() + m.value() + "add\n" + m.save()
	}
	return m.send()
}

// listing is a program's, with a handler for most kinds.
func (m *maker) listing() string {
	var heads []string
	var body strings.Builder
	for range m.kinds {
		if m.below(8) == 0 {
			heads = append(heads, "-")
			continue
		}
		name := m.label()
		heads = append(heads, name)
		body.WriteString(name + ":\n")
		for range 1 + m.below(5) {
			body.WriteString(m.piece())
		}
		body.WriteString("stop\n")
	}
	return fmt.Sprint("words ", m.words, "\nlocals 1\nentry ", strings.Join(heads, " "), "\n", body.String())
}

// plan is a thrown plan; at times one without parts, kinds or starts.
func (m *maker) plan(t *testing.T) api.Plan {
	t.Helper()
	m.parts, m.kinds = 1+m.below(5), 1+m.below(3)
	m.look = uint64(1 + m.below(5))
	p := api.Plan{Kinds: m.kinds, Seed: m.next(), Look: m.look, End: uint64(5 + m.below(50)), Budget: m.below(60), Fuel: 20 + m.below(60)}
	for range 1 + m.below(3) {
		m.words = m.below(4)
		p.Programs = append(p.Programs, program(t, m.listing()))
	}
	for range m.parts {
		p.Parts = append(p.Parts, m.part(p))
	}
	for range 1 + m.below(9) {
		p.Starts = append(p.Starts, m.start())
	}
	return m.bare(p)
}

func (m *maker) part(p api.Plan) api.Part {
	part := api.Part{Program: m.below(len(p.Programs))}
	for range p.Programs[part.Program].Words {
		part.Words = append(part.Words, int64(m.below(20)-5))
	}
	return part
}

func (m *maker) start() api.Start {
	return api.Start{Time: uint64(m.below(20)), Dst: m.below(m.parts), Kind: m.below(m.kinds), Data: int64(m.below(30))}
}

// bare takes something out of a plan, seldom.
func (m *maker) bare(p api.Plan) api.Plan {
	switch m.below(60) {
	case 0:
		p.Parts, p.Starts = nil, nil
	case 1:
		p.Programs, p.Parts, p.Starts, p.Kinds = nil, nil, nil, m.below(33)
	case 2:
		p.Starts = nil
	case 3:
		p.End = 0
	}
	return p
}

// 12.1: what maker throws may be run, and ends in all ways: else the tests that lean on it would look at nothing.
func TestThrownPlans(t *testing.T) {
	m := maker{chance: 12}
	kinds, faults := map[int]int{}, map[api.Errno]int{}
	executed, windows := 0, 0
	for range 1500 {
		p := m.plan(t)
		r := slowRun(p)
		kinds[r.Kind]++
		faults[r.Code]++
		executed += len(r.Trace)
		windows += len(slowWindows(p))
	}
	if kinds[api.Done] < 200 || kinds[api.Cut] < 200 || kinds[api.Fault] < 200 || executed < 10000 || windows < 4000 {
		t.Errorf("kinds %v, %d events, %d windows", kinds, executed, windows)
	}
	for _, fault := range []api.Errno{api.FaultFuel, api.FaultTarget, api.FaultDelay, api.FaultRoll, api.FaultUser} {
		if faults[fault] < 8 {
			t.Errorf("the fault %d comes only %d times", fault, faults[fault])
		}
	}
}
