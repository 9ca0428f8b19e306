package vm_test

import (
	"slices"

	"horizon/api"
)

// rare ones end most handlers.
var rare = []string{"stop", "fail", "loadx", "savex", "row", "roll", "wait", "send", "jump"}

// program is one that Verify takes: it is thrown instruction by instruction, with a depth for each place, and jumps lead to places of their own depth.
func (c *chance) program() api.Program {
	p := api.Program{Words: c.below(5), Locals: c.below(3)}
	size := 1 + c.below(40)
	depths := []int{0}
	for len(p.Code) < size {
		depth := depths[len(p.Code)]
		if c.below(8) == 0 && depth+3 <= api.MaxStack {
			p.Code = append(p.Code, c.sending()...)
			depths = append(depths, depth+1, depth+2, depth+3, depth)
			continue
		}
		in, next := c.instr(p, depth)
		p.Code = append(p.Code, in)
		depths = append(depths, next)
	}
	// What is left to go on behind the last place is stopped there.
	p.Code = append(p.Code, api.Instr{Op: api.IStop})
	var starts []int
	for at, depth := range depths {
		if depth == 0 {
			starts = append(starts, at)
		}
	}
	for range 1 + c.below(3) {
		p.Entry = append(p.Entry, pick(c, append(starts, -1, 0)))
	}
	c.aim(p, depths)
	return p
}

// sending is as a rule a right one.
func (c *chance) sending() []api.Instr {
	target, delay := api.Instr{Op: api.IMe}, api.Instr{Op: api.IPush, A: int64(2 + c.below(3))}
	if c.below(12) == 0 {
		target = api.Instr{Op: api.IPush, A: c.number()}
	}
	if c.below(12) == 0 {
		delay.A = c.number()
	}
	return []api.Instr{{Op: api.IPush, A: c.number()}, target, delay, {Op: api.ISend}}
}

// instr is one that may stand at a depth, and the depth at the next place.
func (c *chance) instr(p api.Program, depth int) (api.Instr, int) {
	for {
		in := api.Instr{Op: c.below(api.NumOps)}
		name := spelled(in.Op)
		pops, pushes := moved(name)
		if pops > depth || depth-pops+pushes > api.MaxStack || slices.Contains(rare, name) && c.below(6) > 0 {
			continue
		}
		switch name {
		case "push":
			in.A = c.number()
		case "load", "save", "loadx", "savex":
			if p.Words == 0 {
				continue
			}
			in.A = int64(c.below(p.Words))
			if name == "loadx" || name == "savex" {
				in.B = 1 + int64(c.below(p.Words-int(in.A)))
			}
		case "get", "put":
			if p.Locals == 0 {
				continue
			}
			in.A = int64(c.below(p.Locals))
		case "row":
			in.A = int64(c.below(api.MaxParts))
			in.B = 1 + int64(c.below(api.MaxParts-int(in.A)))
		}
		next := depth - pops + pushes
		if name == "stop" || name == "fail" || name == "jump" {
			next = c.below(4)
		}
		return in, next
	}
}

// aim gives all jumps a place, and all that is sent a kind.
func (c *chance) aim(p api.Program, depths []int) {
	for at := range p.Code {
		in := &p.Code[at]
		switch spelled(in.Op) {
		case "send":
			in.A = int64(c.below(len(p.Entry)))
		case "jump", "zero":
			pops, _ := moved(spelled(in.Op))
			var fit []int
			for to, depth := range depths[:len(p.Code)] {
				if depth == depths[at]-pops {
					fit = append(fit, to)
				}
			}
			if fit == nil {
				*in = api.Instr{Op: api.IStop}
				continue
			}
			in.A = int64(pick(c, fit))
		}
	}
}

// spoil changes something of a program.
func (c *chance) spoil(p *api.Program) {
	switch c.below(9) {
	case 0:
		p.Words = pick(c, []int{-1, 0, 1, 64, 65})
	case 1:
		p.Locals = pick(c, []int{-1, 0, 1, 32, 33})
	case 2:
		p.Entry = append(p.Entry, -1)
	case 3:
		p.Entry[c.below(len(p.Entry))] = c.below(len(p.Code)+3) - 2
	case 4:
		p.Code = p.Code[:len(p.Code)-1]
	case 5:
		if len(p.Code) > 0 {
			p.Code[c.below(len(p.Code))].Op = pick(c, []int{-1, api.NumOps, c.below(api.NumOps), api.IPop, api.IPush})
		}
	case 6:
		if len(p.Code) > 0 {
			p.Code[c.below(len(p.Code))].A = c.number()
		}
	case 7:
		if len(p.Code) > 0 {
			p.Code[c.below(len(p.Code))].B = c.number()
		}
	case 8:
		for at := range p.Code {
			if spelled(p.Code[at].Op) == "jump" || spelled(p.Code[at].Op) == "zero" {
				p.Code[at].A = int64(c.below(len(p.Code)))
			}
		}
	}
}

// calling is a call that a program may be run on, as a rule.
func (c *chance) calling(p api.Program) api.Call {
	parts := 1 + c.below(4)
	e := api.Event{Key: api.Key{Time: uint64(c.number()), Src: int(c.number()), Seq: c.next()}, Dst: c.below(parts), Kind: c.below(len(p.Entry)), Data: c.number()}
	s := api.State{Dice: c.next(), Sent: uint64(c.number())}
	for range p.Words {
		s.Words = append(s.Words, c.number())
	}
	return api.Call{Event: e, State: s, Look: uint64(c.below(3)), Parts: parts, Fuel: 150}
}
