package vm_test

import (
	"math/big"
	"strings"

	"horizon/api"
	"horizon/dice"
)

// The chapter's table of what an instruction takes from the stack and lays on it.
const stackTable = `
0 1 push load get data now me from
1 0 pop save put zero fail
1 1 loadx neg not flip bool roll wait row
2 0 savex
2 1 add sub mul div mod and or xor shl shr eq ne lt le gt ge min max
3 0 send
0 0 stop jump`

func moved(name string) (pops, pushes int) {
	for row := range strings.SplitSeq(stackTable, "\n") {
		for i, n := range strings.Fields(row) {
			if i >= 2 && n == name {
				return int(row[0] - '0'), int(row[2] - '0')
			}
		}
	}
	panic(name)
}

func within(n int64, low, high int) bool {
	x := big.NewInt(n)
	return x.Cmp(big.NewInt(int64(low))) >= 0 && x.Cmp(big.NewInt(int64(high))) <= 0
}

// numbersRight is the chapter's table of what A and B may be.
func numbersRight(p api.Program, kinds int, in api.Instr) (a, b bool) {
	// Rows: A may be so great that B parts from it on are still there.
	rowA := func(high int) bool {
		sum := new(big.Int).Add(big.NewInt(in.A), big.NewInt(in.B))
		return in.A >= 0 && sum.Cmp(big.NewInt(int64(high))) <= 0
	}
	switch spelled(in.Op) {
	case "push":
		return true, in.B == 0
	case "load", "save":
		return within(in.A, 0, p.Words-1), in.B == 0
	case "loadx", "savex":
		return rowA(p.Words), within(in.B, 1, p.Words)
	case "get", "put":
		return within(in.A, 0, p.Locals-1), in.B == 0
	case "jump", "zero":
		return within(in.A, 0, len(p.Code)-1), in.B == 0
	case "row":
		return rowA(api.MaxParts), within(in.B, 1, api.MaxParts)
	case "send":
		return within(in.A, 0, kinds-1), in.B == 0
	}
	return in.A == 0, in.B == 0
}

// follow are the places at which a program may go on behind an instruction; len(Code) is none.
func follow(p api.Program, at int) []int {
	switch in := p.Code[at]; spelled(in.Op) {
	case "stop", "fail":
		return nil
	case "jump":
		return []int{int(in.A)}
	case "zero":
		return []int{int(in.A), at + 1}
	}
	return []int{at + 1}
}

// judged is 6.1 and 6.2, rule by rule.
func judged(p api.Program, kinds int) ([]int, api.Errno) {
	if kinds < 0 || kinds > api.MaxKinds || p.Words < 0 || p.Words > api.MaxWords || p.Locals < 0 || p.Locals > api.MaxLocals || len(p.Code) > api.MaxCode || len(p.Entry) != kinds {
		return nil, api.ErrProgram
	}
	for _, in := range p.Code {
		if spelled(in.Op) == "" {
			return nil, api.ErrOp
		}
		a, b := numbersRight(p, kinds, in)
		if name := spelled(in.Op); !a && b && (name == "jump" || name == "zero") {
			return nil, api.ErrJump
		}
		if !a || !b {
			return nil, api.ErrArg
		}
	}
	for _, at := range p.Entry {
		if at != -1 && (at < 0 || at >= len(p.Code)) {
			return nil, api.ErrJump
		}
	}
	reached := reachedPlaces(p)
	if reached[len(p.Code)] {
		return nil, api.ErrJump
	}
	return allWays(p)
}

// reachedPlaces goes through the whole code again and again, until nothing is reached anew. The place behind the last one is told, too.
func reachedPlaces(p api.Program) map[int]bool {
	reached := map[int]bool{}
	for _, at := range p.Entry {
		reached[at] = true
	}
	for before := -1; before != len(reached); {
		before = len(reached)
		for at := range p.Code {
			if reached[at] {
				for _, next := range follow(p, at) {
					reached[next] = true
				}
			}
		}
	}
	return reached
}

// spot is a place to which a way comes, and how many values lie there then.
type spot struct{ at, depth int }

// allWays goes all ways there are, each with its own depth: a place may be come to with many.
func allWays(p api.Program) ([]int, api.Errno) {
	seen := map[spot]bool{}
	var open []spot
	for _, at := range p.Entry {
		if at != -1 {
			open = append(open, spot{at, 0})
		}
	}
	depths := make([]int, len(p.Code))
	for i := range depths {
		depths[i] = -1
	}
	for len(open) > 0 {
		s := open[0]
		open = open[1:]
		if seen[s] {
			continue
		}
		seen[s] = true
		if depths[s.at] != -1 {
			return nil, api.ErrStack
		}
		depths[s.at] = s.depth
		pops, pushes := moved(spelled(p.Code[s.at].Op))
		if pops > s.depth || s.depth-pops+pushes > api.MaxStack {
			return nil, api.ErrStack
		}
		for _, next := range follow(p, s.at) {
			open = append(open, spot{next, s.depth - pops + pushes})
		}
	}
	return depths, api.OK
}

// ran is 6.3, with true numbers that are wrapped to 64 bits.
func ran(p api.Program, c api.Call) api.Effect {
	if _, code := judged(p, len(p.Entry)); code != api.OK {
		return api.Effect{Code: code}
	}
	kind := c.Event.Kind
	if c.Parts < 1 || c.Parts > api.MaxParts || c.Event.Dst < 0 || c.Event.Dst >= c.Parts || kind < 0 || kind >= len(p.Entry) || len(c.State.Words) != p.Words || c.Fuel < 0 || c.Fuel > api.MaxFuel {
		return api.Effect{Code: api.ErrArg}
	}
	if p.Entry[kind] == -1 {
		return api.Effect{State: c.State}
	}
	r := &runner{p: p, c: c, dice: c.State.Dice, sent: c.State.Sent, words: map[int64]int64{}, locals: map[int64]int64{}, at: p.Entry[kind]}
	for i, w := range c.State.Words {
		r.words[int64(i)] = w
	}
	for !r.over {
		if r.used == c.Fuel {
			r.code = api.FaultFuel
			break
		}
		r.used++
		r.step()
	}
	if r.code != api.OK {
		return api.Effect{Code: r.code, State: c.State, Used: r.used}
	}
	e := api.Effect{State: api.State{Dice: r.dice, Sent: r.sent}, Out: r.out, Used: r.used}
	for i := range p.Words {
		e.State.Words = append(e.State.Words, r.words[int64(i)])
	}
	return e
}

type runner struct {
	p             api.Program
	c             api.Call
	dice, sent    uint64
	words, locals map[int64]int64
	stack         []int64
	out           []api.Event
	at, used      int
	over          bool
	code          api.Errno
}

func (r *runner) pop() int64 {
	x := r.stack[len(r.stack)-1]
	r.stack = r.stack[:len(r.stack)-1]
	return x
}

func (r *runner) push(x int64) { r.stack = append(r.stack, x) }

func (r *runner) fault(code api.Errno) { r.code, r.over = code, true }

// step is DOC.md's table, row by row.
func (r *runner) step() {
	in := r.p.Code[r.at]
	r.at++
	switch name := spelled(in.Op); name {
	case "stop":
		r.over = true
	case "push":
		r.push(in.A)
	case "pop":
		r.pop()
	case "load":
		r.push(r.words[in.A])
	case "save":
		r.words[in.A] = r.pop()
	case "loadx", "row", "savex":
		r.indexed(name, in)
	case "get":
		r.push(r.locals[in.A])
	case "put":
		r.locals[in.A] = r.pop()
	case "data":
		r.push(r.c.Event.Data)
	case "now":
		r.push(wrapped(new(big.Int).SetUint64(r.c.Event.Key.Time)))
	case "me":
		r.push(int64(r.c.Event.Dst))
	case "from":
		r.push(int64(r.c.Event.Key.Src))
	case "neg", "not", "flip", "bool":
		r.push(ofOne(name, r.pop()))
	case "jump":
		r.at = int(in.A)
	case "zero":
		if r.pop() == 0 {
			r.at = int(in.A)
		}
	case "roll", "wait":
		r.thrown(name)
	case "send":
		r.send(int(in.A))
	case "fail":
		r.fault(api.FaultUser)
	default:
		b := r.pop()
		a := r.pop()
		x, code := ofTwo(name, a, b)
		if code != api.OK {
			r.fault(code)
		}
		r.push(x)
	}
}

func (r *runner) indexed(name string, in api.Instr) {
	var v int64
	if name == "savex" {
		v = r.pop()
	}
	i := r.pop()
	switch {
	case i < 0 || i > in.B-1:
		r.fault(api.FaultIndex)
	case name == "savex":
		r.words[in.A+i] = v
	case name == "loadx":
		r.push(r.words[in.A+i])
	default:
		r.push(in.A + i)
	}
}

func (r *runner) thrown(name string) {
	n := r.pop()
	if n < 1 {
		r.fault(api.FaultRoll)
		return
	}
	x, s, code := dice.Below(r.dice, uint64(n))
	if name == "wait" {
		x, s, code = dice.Wait(r.dice, uint64(n))
	}
	if code != api.OK || x >= 1<<63 {
		r.fault(api.FaultTime)
		return
	}
	r.push(int64(x))
	r.dice = s
}

func (r *runner) send(kind int) {
	delay := big.NewInt(r.pop())
	target := r.pop()
	data := r.pop()
	time := new(big.Int).Add(new(big.Int).SetUint64(r.c.Event.Key.Time), delay)
	switch {
	case !within(target, 0, r.c.Parts-1):
		r.fault(api.FaultTarget)
	case delay.Sign() < 0 || delay.Cmp(new(big.Int).SetUint64(r.c.Look)) < 0:
		r.fault(api.FaultDelay)
	case len(r.out) >= api.MaxOut:
		r.fault(api.FaultOut)
	case !time.IsUint64():
		r.fault(api.FaultTime)
	default:
		key := api.Key{Time: time.Uint64(), Src: r.c.Event.Dst, Seq: r.sent}
		r.out = append(r.out, api.Event{Key: key, Dst: int(target), Kind: kind, Data: data})
		r.sent++
	}
}

// wrapped is a true number as 64 bits hold it, with sign.
func wrapped(n *big.Int) int64 {
	all := new(big.Int).Lsh(big.NewInt(1), 64)
	n = new(big.Int).Mod(n, all)
	if n.BitLen() == 64 {
		n.Sub(n, all)
	}
	return n.Int64()
}

func oneIf(yes bool) int64 {
	if yes {
		return 1
	}
	return 0
}

func ofOne(name string, a int64) int64 {
	switch name {
	case "neg":
		return wrapped(new(big.Int).Neg(big.NewInt(a)))
	case "flip":
		return wrapped(new(big.Int).Sub(big.NewInt(-1), big.NewInt(a)))
	case "not":
		return oneIf(a == 0)
	}
	return oneIf(a != 0)
}

// ofTwo is what an instruction makes of two values, b having lain on top.
func ofTwo(name string, a, b int64) (int64, api.Errno) {
	x, y, z := big.NewInt(a), big.NewInt(b), new(big.Int)
	order := x.Cmp(y)
	switch name {
	case "add":
		z.Add(x, y)
	case "sub":
		z.Sub(x, y)
	case "mul":
		z.Mul(x, y)
	case "div", "mod":
		if b == 0 {
			return 0, api.FaultDivide
		}
		if z.Quo(x, y); name == "mod" {
			z.Sub(x, z.Mul(z, y))
		}
	case "and":
		z.And(x, y)
	case "or":
		z.Or(x, y)
	case "xor":
		z.Xor(x, y)
	case "shl", "shr":
		if b < 0 {
			return 0, api.FaultShift
		}
		return shifted(name, x, b), api.OK
	case "min":
		return []int64{a, a, b}[order+1], api.OK
	case "max":
		return []int64{b, a, a}[order+1], api.OK
	default:
		holds := map[string][3]int64{"eq": {0, 1, 0}, "ne": {1, 0, 1}, "lt": {1, 0, 0}, "le": {1, 1, 0}, "gt": {0, 0, 1}, "ge": {0, 1, 1}}
		return holds[name][order+1], api.OK
	}
	return wrapped(z), api.OK
}

// shifted doubles or halves (downwards) place by place; behind 64 places nothing changes any more.
func shifted(name string, x *big.Int, places int64) int64 {
	two := big.NewInt(2)
	for range min(places, 64) {
		if name == "shl" {
			x.Mul(x, two)
		} else {
			x.Div(x, two)
		}
	}
	return wrapped(x)
}
