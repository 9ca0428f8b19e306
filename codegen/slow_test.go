package codegen_test

import (
	"slices"

	"horizon/api"
)

// tidied is 7.7, word by word.
func tidied(p api.Program) api.Program {
	for {
		q := aRound(p)
		if sameProgram(p, q) {
			return p
		}
		p = q
	}
}

func aRound(p api.Program) api.Program {
	p = shortcuts(p)
	p = without(p, unreached(p))
	p = without(p, stepsOn(p))
	return constants(p)
}

func another(p api.Program) api.Program {
	p.Code, p.Entry = slices.Clone(p.Code), slices.Clone(p.Entry)
	return p
}

// end of a place, from jump to jump.
func end(code []api.Instr, place int) int {
	seen := map[int]bool{}
	at := place
	for code[at].Op == api.IJump {
		if seen[at] {
			return place
		}
		seen[at] = true
		at = int(code[at].A)
	}
	return at
}

func shortcuts(p api.Program) api.Program {
	q := another(p)
	for i, in := range p.Code {
		if in.Op == api.IJump || in.Op == api.IZero {
			q.Code[i].A = int64(end(p.Code, int(in.A)))
		}
	}
	for i, at := range p.Entry {
		if at != -1 {
			q.Entry[i] = end(p.Code, at)
		}
	}
	stops := another(q)
	for i, in := range q.Code {
		if in.Op == api.IJump && q.Code[in.A].Op == api.IStop {
			stops.Code[i] = api.Instr{Op: api.IStop}
		}
	}
	return stops
}

// unreached goes through the whole code again and again, until nothing is reached anew.
func unreached(p api.Program) []int {
	reached := map[int]bool{}
	for _, at := range p.Entry {
		reached[at] = true
	}
	for before := -1; before != len(reached); {
		before = len(reached)
		for at, in := range p.Code {
			if !reached[at] {
				continue
			}
			if in.Op == api.IJump || in.Op == api.IZero {
				reached[int(in.A)] = true
			}
			if in.Op != api.IStop && in.Op != api.IJump && in.Op != api.IFail {
				reached[at+1] = true
			}
		}
	}
	var list []int
	for at := range p.Code {
		if !reached[at] {
			list = append(list, at)
		}
	}
	return list
}

func stepsOn(p api.Program) []int {
	var list []int
	for at, in := range p.Code {
		if in.Op == api.IJump && in.A == int64(at)+1 {
			list = append(list, at)
		}
	}
	return list
}

// without takes places out one by one, the last one first: what stood behind it is one place further ahead then.
func without(p api.Program, places []int) api.Program {
	p = another(p)
	for _, gone := range slices.Backward(places) {
		p.Code = slices.Delete(p.Code, gone, gone+1)
		for i := range p.Code {
			if in := &p.Code[i]; (in.Op == api.IJump || in.Op == api.IZero) && in.A > int64(gone) {
				in.A--
			}
		}
		for i := range p.Entry {
			if p.Entry[i] > gone {
				p.Entry[i]--
			}
		}
	}
	return p
}

// What the third step computes, by the instructions' names.
var (
	twoValues = map[int]string{
		api.IAdd: "add", api.ISub: "sub", api.IMul: "mul", api.IDiv: "div", api.IMod: "mod", api.IAnd: "and", api.IOr: "or", api.IXor: "xor",
		api.IShl: "shl", api.IShr: "shr", api.IEq: "eq", api.INe: "ne", api.ILt: "lt", api.ILe: "le", api.IGt: "gt", api.IGe: "ge", api.IMin: "min", api.IMax: "max",
	}
	oneValue = map[int]string{api.INeg: "neg", api.INot: "not", api.IFlip: "flip", api.IBool: "bool"}
)

func constants(p api.Program) api.Program {
	q := another(p)
	taken := map[int]bool{}
	for _, in := range p.Code {
		if in.Op == api.IJump || in.Op == api.IZero {
			taken[int(in.A)] = true
		}
	}
	for _, at := range p.Entry {
		taken[at] = true
	}
	// op of a place, -1 where there is none.
	op := func(i int) int {
		if i >= len(p.Code) {
			return -1
		}
		return p.Code[i].Op
	}
	jump := func(i int, to int64) { q.Code[i] = api.Instr{Op: api.IJump, A: to} }
	push := func(i int, x int64) { q.Code[i] = api.Instr{Op: api.IPush, A: x} }
	for i := 0; i < len(p.Code); i++ {
		x, here := p.Code[i].A, int64(i)
		if op(i) == api.IPush && op(i+1) == api.IPush && twoValues[op(i+2)] != "" && !taken[i+1] && !taken[i+2] {
			if value, fault := ofTwo(twoValues[op(i+2)], x, p.Code[i+1].A); fault == api.OK {
				jump(i, here+1)
				jump(i+1, here+2)
				push(i+2, value)
				i += 2
				continue
			}
		}
		if op(i) != api.IPush || taken[i+1] {
			continue
		}
		switch {
		case oneValue[op(i+1)] != "":
			jump(i, here+1)
			push(i+1, ofOne(oneValue[op(i+1)], x))
		case op(i+1) == api.IPop:
			jump(i, here+1)
			jump(i+1, here+2)
		case op(i+1) == api.IZero && x == 0:
			jump(i, here+1)
			jump(i+1, p.Code[i+1].A)
		case op(i+1) == api.IZero:
			jump(i, here+1)
			jump(i+1, here+2)
		default:
			continue
		}
		i++
	}
	return q
}
