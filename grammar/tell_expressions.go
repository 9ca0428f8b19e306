package grammar

import "horizon/api"

func strength(n api.Node) int {
	switch n.Kind {
	case api.NBinary:
		return binds(n.Op)
	case api.NUnary:
		return unary
	}
	return atom
}

func (t *teller) expression(at int) {
	n := t.nodes[at]
	switch n.Kind {
	case api.NNumber:
		t.number(n.Num)
	case api.NName, api.NIndex:
		t.token(n.Name)
		t.index(n.Kids)
	case api.NBinary:
		t.binary(n)
	case api.NUnary:
		t.open(n.Op)
		t.operand(n.Kids[0], unary)
		t.deep--
	case api.NNow:
		t.mark(api.TNow)
	case api.NMe:
		t.mark(api.TMe)
	case api.NFrom:
		t.mark(api.TFrom)
	case api.NRoll:
		t.call(api.TRoll, n.Kids)
	case api.NWait:
		t.call(api.TWait, n.Kids)
	case api.NLeast:
		t.call(api.TMin, n.Kids)
	case api.NMost:
		t.call(api.TMax, n.Kids)
	}
}

func (t *teller) call(word int, kids []int) {
	t.mark(word)
	t.bracketed(kids, t.expression)
}

func (t *teller) binary(n api.Node) {
	own := strength(n)
	left := own
	if own == comparison {
		left++
	}
	t.operand(n.Kids[0], left)
	t.between(n.Op)
	t.operand(n.Kids[1], own+1)
}

// operand puts what is weaker than this into brackets.
func (t *teller) operand(at, least int) {
	if strength(t.nodes[at]) < least {
		t.bracketed([]int{at}, t.expression)
		return
	}
	t.expression(at)
}
