package codegen

import "horizon/api"

// operators has the instructions of the language's operators from OpEq to OpMod.
var operators = [...]int{
	api.IEq, api.INe, api.ILt, api.ILe, api.IGt, api.IGe,
	api.IOr, api.IXor, api.IAnd, api.IShl, api.IShr,
	api.IAdd, api.ISub, api.IMul, api.IDiv, api.IMod,
}

// values of expressions that stand side by side; under counts what lies on the stack already.
func (h *handler) values(list []int, under int) {
	for i, at := range list {
		h.expression(at, under+i)
	}
}

func (h *handler) expression(at, under int) {
	h.high = max(h.high, under+1)
	n := h.nodes[at]
	switch n.Kind {
	case api.NNumber:
		h.emit(api.Instr{Op: api.IPush, A: int64(n.Num)})
	case api.NName, api.NIndex:
		h.name(n, under)
	case api.NBinary:
		h.binary(n, under)
	default:
		h.values(n.Kids, under)
		h.emit(api.Instr{Op: plain(n)})
	}
}

func (h *handler) name(n api.Node, under int) {
	found := h.find(n.Name)
	if isRow(found) {
		h.expression(n.Kids[0], under)
	}
	h.emit(found.read())
}

func (h *handler) binary(n api.Node, under int) {
	switch n.Op {
	case api.OpAnd:
		h.and(n, under)
	case api.OpOr:
		h.or(n, under)
	default:
		h.values(n.Kids, under)
		h.emit(api.Instr{Op: operators[n.Op-api.OpEq]})
	}
}

func (h *handler) and(n api.Node, under int) {
	h.expression(n.Kids[0], under)
	no := h.jump(api.IZero)
	h.expression(n.Kids[1], under)
	h.emit(api.Instr{Op: api.IBool})
	end := h.jump(api.IJump)
	no(h.here())
	h.emit(api.Instr{Op: api.IPush, A: 0})
	end(h.here())
}

func (h *handler) or(n api.Node, under int) {
	h.expression(n.Kids[0], under)
	right := h.jump(api.IZero)
	h.emit(api.Instr{Op: api.IPush, A: 1})
	end := h.jump(api.IJump)
	right(h.here())
	h.expression(n.Kids[1], under)
	h.emit(api.Instr{Op: api.IBool})
	end(h.here())
}

// plain is the one instruction of an expression behind those of what lies in it.
func plain(n api.Node) int {
	switch n.Kind {
	case api.NNow:
		return api.INow
	case api.NMe:
		return api.IMe
	case api.NFrom:
		return api.IFrom
	case api.NRoll:
		return api.IRoll
	case api.NWait:
		return api.IWait
	case api.NLeast:
		return api.IMin
	case api.NMost:
		return api.IMax
	}
	switch n.Op {
	case api.OpSub:
		return api.INeg
	case api.OpNot:
		return api.INot
	}
	return api.IFlip
}
