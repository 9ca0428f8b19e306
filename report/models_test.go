package report_test

import (
	"fmt"
	"math"
	"strings"
	"testing"

	"horizon/api"
	"horizon/seqrun"
)

// maker throws scenarios: handlers reckon, throw dice, send, and fail at times.
type maker struct {
	chance
	parts, kinds int
	look         int
}

func (m *maker) kind() string { return fmt.Sprint("k", m.below(m.kinds)) }

func (m *maker) value() string {
	return pick(&m.chance, "x", "n", "now", "from", "x + 1", "roll(9)", fmt.Sprint(m.below(30)))
}

func (m *maker) send() string {
	to := pick(&m.chance, "me", "from", fmt.Sprint("roll(", m.parts, ")"), fmt.Sprint("(me + 1) % ", m.parts), fmt.Sprint(m.below(m.parts)))
	after := pick(&m.chance, "", "", fmt.Sprint(" + roll(", 1+m.below(9), ")"), fmt.Sprint(" + wait(", 1+m.below(6), ")"))
	if m.below(60) == 0 {
		after = " - 1" // one too early
	}
	return fmt.Sprint("send ", m.kind(), "(", m.value(), ") to ", to, " after ", m.look, after)
}

func (m *maker) statement() string {
	switch m.below(12) {
	case 0:
		return fmt.Sprint("if (", m.value(), ") % 17 == 1 { fail n }")
	case 1, 2:
		return fmt.Sprint("if roll(2) == 0 { ", m.send(), " }")
	case 3:
		return fmt.Sprint("r[now & 1] = ", m.value())
	case 4, 5:
		return fmt.Sprint("n = n * -3 + ", m.value())
	}
	return m.send()
}

func (m *maker) kindOfPart(name string) string {
	var b strings.Builder
	fmt.Fprintln(&b, "type", name, "{ var n =", m.below(9), "var r[2]")
	for k := range m.kinds {
		if m.below(8) == 0 {
			continue
		}
		fmt.Fprintln(&b, "on", fmt.Sprint("k", k, "(x)"), "{")
		for range 1 + m.below(4) {
			fmt.Fprintln(&b, m.statement())
		}
		fmt.Fprintln(&b, "}")
	}
	return b.String() + "}\n"
}

func (m *maker) text() string {
	m.parts, m.kinds, m.look = 1+m.below(6), 1+m.below(3), 1+m.below(6)
	var b strings.Builder
	fmt.Fprintln(&b, "seed", m.below(1000), "look", m.look, "end", 5+m.below(50), "budget", m.below(60), "fuel", 40+m.below(200))
	for k := range m.kinds {
		fmt.Fprintln(&b, "kind", fmt.Sprint("k", k))
	}
	b.WriteString(m.kindOfPart("A") + m.kindOfPart("B"))
	for i := range m.parts {
		fmt.Fprintln(&b, "place", fmt.Sprint("p", i), ":", pick(&m.chance, "A", "B"))
	}
	for range 1 + m.below(6) {
		fmt.Fprintln(&b, "start", m.kind()+fmt.Sprint("(", m.below(30), ")"), "to", fmt.Sprint("p", m.below(m.parts)), "at", m.below(12))
	}
	return b.String()
}

// plan is a thrown plan; at times one at the end of time, without starts, or without anything.
func (m *maker) plan(t *testing.T) api.Plan {
	t.Helper()
	p := scenario(t, m.text())
	switch m.below(60) {
	case 0:
		p.Parts, p.Starts = nil, nil
	case 1:
		p.Starts = nil
	case 2:
		p.End = 0
	case 3, 4:
		p.End = math.MaxUint64 - uint64(m.below(3))
		for i := range p.Starts {
			p.Starts[i].Time += math.MaxUint64 - 30
		}
	}
	return p
}

// number is a number near 0, or one of the largest and least.
func (c *chance) number() int {
	if c.below(12) == 0 {
		return pick(c, math.MaxInt, math.MinInt, -1, int(c.next()))
	}
	return c.below(5) - 1
}

// time is a small time, or one near the last.
func (c *chance) time() uint64 {
	if c.below(6) == 0 {
		return pick(c, math.MaxUint64-uint64(c.below(3)), 1<<63-1, 1<<63, 1<<53+1, c.next())
	}
	return uint64(c.below(20))
}

// event is one that no run need have.
func (c *chance) event() api.Event {
	return api.Event{Key: api.Key{Time: c.time(), Src: c.number(), Seq: c.time()}, Dst: c.number(), Kind: c.number(), Data: int64(c.number())}
}

// result is one that no run need have.
func (c *chance) result() api.Result {
	r := api.Result{Kind: c.number(), Code: api.Errno(c.number()), At: c.event().Key, Window: c.number()}
	if c.below(3) > 0 {
		r.Kind = 1 + c.below(7)
	}
	for range c.below(4) {
		v := api.State{Dice: c.time(), Sent: c.time()}
		for range c.below(4) {
			v.Words = append(v.Words, int64(c.number()))
		}
		r.States = append(r.States, v)
	}
	for range c.below(12) {
		r.Trace = append(r.Trace, c.event())
	}
	return r
}

// 17.7: what maker throws may be run, and ends in all ways, with events that are sent and whose senders are other parts: else the tests that lean on it would look at nothing.
func TestThrownPlans(t *testing.T) {
	m := maker{chance: 17}
	kinds, sent, others := map[int]int{}, 0, 0
	for range 1000 {
		p := m.plan(t)
		if code := seqrun.Valid(p); code != api.OK {
			t.Fatalf("Valid is %d", code)
		}
		r := seqrun.Run(p)
		kinds[r.Kind]++
		sent += max(0, len(r.Trace)-len(p.Starts))
		for _, e := range r.Trace {
			if e.Key.Src != e.Dst {
				others++
			}
		}
	}
	if kinds[api.Done] < 100 || kinds[api.Cut] < 100 || kinds[api.Fault] < 100 || sent < 5000 || others < 3000 {
		t.Errorf("kinds %v, %d sent events, %d from others", kinds, sent, others)
	}
}
