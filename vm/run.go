package vm

import (
	"math"
	"slices"

	"horizon/api"
	"horizon/dice"
	"horizon/stamp"
)

// Run runs the handler for a call's event.
func Run(p api.Program, c api.Call) api.Effect {
	if code := Verify(p, len(p.Entry)); code != api.OK {
		return api.Effect{Code: code}
	}
	if !fits(p, c) {
		return api.Effect{Code: api.ErrArg}
	}
	m := machine{code: p.Code, call: c, pairs: pairs(), state: copied(c.State)}
	at := p.Entry[c.Event.Kind]
	if at == passedOver {
		return api.Effect{State: m.state}
	}
	if code := m.run(at); code != api.OK {
		return api.Effect{Code: code, State: copied(c.State), Used: m.used}
	}
	return api.Effect{State: m.state, Out: m.out, Used: m.used}
}

// fits tells whether a program may be run on a call.
func fits(p api.Program, c api.Call) bool {
	return c.Parts >= 1 && c.Parts <= api.MaxParts &&
		c.Event.Dst >= 0 && c.Event.Dst < c.Parts &&
		c.Event.Kind >= 0 && c.Event.Kind < len(p.Entry) &&
		len(c.State.Words) == p.Words &&
		c.Fuel >= 0 && c.Fuel <= api.MaxFuel
}

func copied(s api.State) api.State {
	s.Words = slices.Clone(s.Words)
	return s
}

// machine runs one handler of a program that Verify has passed: so nothing here asks whether a place, a word or a value on the stack is there.
type machine struct {
	code   []api.Instr
	call   api.Call
	pairs  [api.NumOps]pair
	state  api.State
	locals [api.MaxLocals]int64
	stack  [api.MaxStack]int64
	high   int // how many values lie on the stack
	out    []api.Event
	used   int
}

// run goes through the instructions up to the handler's end, or up to its fault.
func (m *machine) run(at int) api.Errno {
	code := api.FaultFuel
row:
	for m.used < m.call.Fuel {
		in := m.code[at]
		m.used++
		at++
		switch in.Op {
		case api.IStop:
			code = api.OK
			break row
		case api.IJump:
			at = int(in.A)
		case api.IZero:
			if m.pop() == 0 {
				at = int(in.A)
			}
		default:
			if fault := m.do(in); fault != api.OK {
				code = fault
				break row
			}
		}
	}
	return code
}

func (m *machine) push(x int64) {
	m.stack[m.high] = x
	m.high++
}

func (m *machine) pop() int64 {
	m.high--
	return m.stack[m.high]
}

// do runs an instruction behind which the next place follows.
func (m *machine) do(in api.Instr) api.Errno {
	switch in.Op {
	case api.IPush:
		m.push(in.A)
	case api.IPop:
		m.pop()
	case api.ILoad:
		m.push(m.state.Words[in.A])
	case api.ISave:
		m.state.Words[in.A] = m.pop()
	case api.IGet:
		m.push(m.locals[in.A])
	case api.IPut:
		m.locals[in.A] = m.pop()
	case api.IData:
		m.push(m.call.Event.Data)
	case api.INow:
		m.push(int64(m.call.Event.Key.Time))
	case api.IMe:
		m.push(int64(m.call.Event.Dst))
	case api.IFrom:
		m.push(int64(m.call.Event.Key.Src))
	case api.INeg, api.INot, api.IFlip, api.IBool:
		m.push(single(in.Op, m.pop()))
	case api.ILoadX, api.ISaveX, api.IRow:
		return m.index(in)
	case api.IRoll:
		return m.roll(m.pop())
	case api.IWait:
		return m.wait(m.pop())
	case api.ISend:
		return m.send(int(in.A))
	case api.IFail:
		return api.FaultUser
	default:
		return m.pair(m.pairs[in.Op])
	}
	return api.OK
}

func (m *machine) pair(of pair) api.Errno {
	b := m.pop()
	a := m.pop()
	x, code := of.value(a, b)
	m.push(x)
	return code
}

func (m *machine) index(in api.Instr) api.Errno {
	var x int64
	if in.Op == api.ISaveX {
		x = m.pop()
	}
	i := m.pop()
	if i < 0 || i >= in.B {
		return api.FaultIndex
	}
	switch in.Op {
	case api.ILoadX:
		m.push(m.state.Words[in.A+i])
	case api.ISaveX:
		m.state.Words[in.A+i] = x
	case api.IRow:
		m.push(in.A + i)
	}
	return api.OK
}

func (m *machine) roll(n int64) api.Errno {
	if n < 1 {
		return api.FaultRoll
	}
	x, behind, _ := dice.Below(m.state.Dice, uint64(n))
	m.push(int64(x))
	m.state.Dice = behind
	return api.OK
}

func (m *machine) wait(n int64) api.Errno {
	if n < 1 {
		return api.FaultRoll
	}
	x, behind, code := dice.Wait(m.state.Dice, uint64(n))
	if code != api.OK || x > math.MaxInt64 {
		return api.FaultTime
	}
	m.push(int64(x))
	m.state.Dice = behind
	return api.OK
}

func (m *machine) send(kind int) api.Errno {
	delay := m.pop()
	target := m.pop()
	data := m.pop()
	own := m.call.Event
	time, late := stamp.Add(own.Key.Time, uint64(delay))
	switch {
	case target < 0 || target >= int64(m.call.Parts):
		return api.FaultTarget
	case delay < 0 || uint64(delay) < m.call.Look:
		return api.FaultDelay
	case len(m.out) == api.MaxOut:
		return api.FaultOut
	case late != api.OK:
		return api.FaultTime
	}
	key := api.Key{Time: time, Src: own.Dst, Seq: m.state.Sent}
	m.out = append(m.out, api.Event{Key: key, Dst: int(target), Kind: kind, Data: data})
	m.state.Sent++
	return api.OK
}
