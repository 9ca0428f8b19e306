package codegen

import (
	"slices"

	"horizon/api"
)

// programs are those of a scene's types.
func programs(nodes []api.Node, s api.Scene) ([]api.Program, error) {
	var list []api.Program
	for _, t := range s.Types {
		p, err := program(nodes, s, t)
		if err != nil {
			return nil, err
		}
		list = append(list, p)
	}
	return list, nil
}

func program(nodes []api.Node, s api.Scene, t api.Type) (api.Program, error) {
	p := api.Program{Words: len(t.First), Entry: slices.Repeat([]int{-1}, len(s.Kinds))}
	far := outside(s, t.Vars)
	for _, on := range t.Handlers {
		p.Entry[on.Kind] = len(p.Code)
		known := slices.Concat(far, []named{{on.Param, data{}}})
		h := handler{nodes: nodes, kinds: s.Kinds, code: p.Code, known: known, far: len(known)}
		n := nodes[on.Node]
		h.block(nodes[n.Kids[1]].Kids)
		h.emit(api.Instr{Op: api.IStop})
		if code := h.tooLarge(); code != api.OK {
			return api.Program{}, &api.PosError{Line: n.Line, Col: n.Col, Err: code}
		}
		p.Code = h.code
		p.Locals = max(p.Locals, h.most)
	}
	return p, nil
}

// handler is on its way through the block of an NOn; its code begins with that of the handlers ahead of it.
type handler struct {
	nodes []api.Node
	kinds []string
	code  []api.Instr
	known []named // of two that bear one name the last one is meant; the locals are at the end
	far   int     // how many of the known are no locals
	most  int     // the greatest number of locals so far
	high  int     // the greatest number of values on the stack so far
	loop  *loop   // the innermost one
}

// loop keeps the jumps of a while until it is known where they go.
type loop struct {
	breaks    []func(place int)
	continues []func(place int)
}

func (h *handler) tooLarge() api.Errno {
	switch {
	case h.most > api.MaxLocals:
		return api.ErrLocals
	case h.high > api.MaxStack:
		return api.ErrHigh
	case len(h.code) > api.MaxCode:
		return api.ErrBig
	}
	return api.OK
}

func (h *handler) emit(in api.Instr) { h.code = append(h.code, in) }

// here is the place of the next instruction.
func (h *handler) here() int { return len(h.code) }

// jump is written ahead of its place being known; what it answers puts the place in.
func (h *handler) jump(op int) func(place int) {
	at := h.here()
	h.emit(api.Instr{Op: op})
	return func(place int) { h.code[at].A = int64(place) }
}

func (h *handler) find(name string) meaning {
	at := len(h.known) - 1
	// Layer 5 has found every name, so this ends.
	for h.known[at].name != name {
		at--
	}
	return h.known[at].what
}

func (h *handler) block(statements []int) {
	known := len(h.known)
	for _, at := range statements {
		h.statement(h.nodes[at])
	}
	h.known = h.known[:known]
}

func (h *handler) statement(n api.Node) {
	switch n.Kind {
	case api.NLet:
		h.let(n)
	case api.NSet, api.NSetAt:
		h.set(n)
	case api.NIf:
		h.choose(n)
	case api.NWhile:
		h.while(n)
	case api.NBreak:
		h.loop.breaks = append(h.loop.breaks, h.jump(api.IJump))
	case api.NContinue:
		h.loop.continues = append(h.loop.continues, h.jump(api.IJump))
	case api.NReturn:
		h.emit(api.Instr{Op: api.IStop})
	case api.NSend:
		h.values(n.Kids, 0)
		h.emit(api.Instr{Op: api.ISend, A: int64(slices.Index(h.kinds, n.Name))})
	case api.NFail:
		h.values(n.Kids, 0)
		h.emit(api.Instr{Op: api.IFail})
	}
}

func (h *handler) let(n api.Node) {
	made := local(len(h.known) - h.far)
	h.values(n.Kids, 0)
	h.emit(made.set())
	h.known = append(h.known, named{n.Name, made})
	h.most = max(h.most, len(h.known)-h.far)
}

func (h *handler) set(n api.Node) {
	h.values(n.Kids, 0)
	h.emit(h.find(n.Name).set())
}

func (h *handler) choose(n api.Node) {
	h.expression(n.Kids[0], 0)
	past := h.jump(api.IZero)
	h.block(h.nodes[n.Kids[1]].Kids)
	if len(n.Kids) == 3 {
		end := h.jump(api.IJump)
		past(h.here())
		past = end
		h.other(h.nodes[n.Kids[2]])
	}
	past(h.here())
}

// other is what stands behind an else.
func (h *handler) other(n api.Node) {
	if n.Kind == api.NIf {
		h.choose(n)
		return
	}
	h.block(n.Kids)
}

func (h *handler) while(n api.Node) {
	outer, top := h.loop, h.here()
	h.loop = &loop{}
	h.expression(n.Kids[0], 0)
	h.loop.breaks = append(h.loop.breaks, h.jump(api.IZero))
	h.block(h.nodes[n.Kids[1]].Kids)
	h.loop.continues = append(h.loop.continues, h.jump(api.IJump))
	for _, put := range h.loop.continues {
		put(top)
	}
	for _, put := range h.loop.breaks {
		put(h.here())
	}
	h.loop = outer
}
