package scope

import "horizon/api"

// local is a name of a block that is open: how deep the block lies in others, and the name.
type local struct {
	deep int
	name string
}

// handler is a checker on its way through an NOn's block.
type handler struct {
	*checker
	param  int
	vars   map[string]int
	locals map[local]int
	deep   int // how many blocks are open
	loops  int // how many whiles are
}

func (c *checker) checkHandler(on api.Node, vars map[string]int) {
	h := handler{checker: c, param: on.Kids[0], vars: vars, locals: map[local]int{}}
	h.block(h.nodes[on.Kids[1]].Kids)
}

func (h *handler) block(statements []int) {
	h.deep++
	for _, at := range statements {
		h.statement(at)
	}
	for _, at := range statements {
		if n := h.nodes[at]; n.Kind == api.NLet {
			delete(h.locals, local{h.deep, n.Name})
		}
	}
	h.deep--
}

func (h *handler) statement(at int) {
	n := h.nodes[at]
	switch n.Kind {
	case api.NSet, api.NSetAt:
		found := h.find(n.Name)
		h.judge(at, found, h.canSet(n.Kind, found))
	case api.NBreak, api.NContinue:
		if h.loops == 0 {
			h.fault(at, api.ErrLoop)
		}
	case api.NSend:
		h.global(at, api.NKind)
	case api.NWhile:
		h.loops++
	}
	h.inside(n.Kids)
	switch n.Kind {
	case api.NWhile:
		h.loops--
	case api.NLet:
		// Behind its own expression, which does not know it.
		h.declare(at, local{h.deep, n.Name})
	}
}

func (h *handler) canSet(kind, found int) bool {
	if kind == api.NSetAt {
		return h.nodes[found].Kind == api.NVar && h.isRow(found)
	}
	return h.nodes[found].Kind == api.NLet || h.nodes[found].Kind == api.NVar && !h.isRow(found)
}

func (h *handler) inside(kids []int) {
	for _, kid := range kids {
		switch n := h.nodes[kid]; n.Kind {
		case api.NBlock:
			h.block(n.Kids)
		case api.NIf:
			h.statement(kid)
		default:
			h.expression(kid)
		}
	}
}

func (h *handler) declare(at int, name local) {
	if h.locals[name] != 0 {
		h.fault(at, api.ErrTwice)
	}
	h.locals[name] = at
}

// expression goes straight through: no name begins or ends in an expression.
func (h *handler) expression(at int) {
	for end := past(h.nodes, at); at < end; at++ {
		n := h.nodes[at]
		switch n.Kind {
		case api.NNumber:
			if tooLarge(n) {
				h.fault(at, api.ErrRange)
			}
		case api.NName:
			found := h.find(n.Name)
			h.judge(at, found, h.isNumber(found))
		case api.NIndex:
			found := h.find(n.Name)
			h.judge(at, found, h.isRow(found))
		}
	}
}

// isNumber tells whether a name by itself stands for a number.
func (h *handler) isNumber(found int) bool {
	switch h.nodes[found].Kind {
	case api.NKind, api.NType:
		return false
	}
	return !h.isRow(found)
}

// find is what a name means just here.
func (h *handler) find(name string) int {
	for deep := h.deep; deep > 0; deep-- {
		if at := h.locals[local{deep, name}]; at != 0 {
			return at
		}
	}
	if h.nodes[h.param].Name == name {
		return h.param
	}
	if at := h.vars[name]; at != 0 {
		return at
	}
	return h.globals[name]
}
