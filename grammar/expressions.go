package grammar

import "horizon/api"

// How strongly expressions bind: comparisons alone don't stand side by side.
const (
	weakest    = 1
	comparison = 3
	unary      = 10
	atom       = 11
)

// binds is the strength of a binary operator, 0 for all else.
func binds(op int) int {
	switch op {
	case api.OpOr:
		return weakest
	case api.OpAnd:
		return 2
	case api.OpEq, api.OpNe, api.OpLt, api.OpLe, api.OpGt, api.OpGe:
		return comparison
	case api.OpBitOr:
		return 4
	case api.OpBitXor:
		return 5
	case api.OpBitAnd:
		return 6
	case api.OpShl, api.OpShr:
		return 7
	case api.OpAdd, api.OpSub:
		return 8
	case api.OpMul, api.OpDiv, api.OpMod:
		return 9
	}
	return 0
}

func isUnary(op int) bool {
	return op == api.OpSub || op == api.OpNot || op == api.OpFlip
}

func (p *parser) expression() int { return p.binary(weakest) }

// binary is an expression whose operators outside of brackets are of this strength or stronger.
func (p *parser) binary(strength int) int {
	if strength == unary {
		return p.unary()
	}
	left := p.binary(strength + 1)
	for binds(p.kind()) == strength {
		op := p.take(p.kind())
		left = p.add(op, api.Node{Kind: api.NBinary, Op: op.Kind, Kids: []int{left, p.binary(strength + 1)}})
		if strength == comparison {
			break
		}
	}
	return left
}

func (p *parser) unary() int {
	if !isUnary(p.kind()) {
		return p.atom()
	}
	op := p.enter(p.kind())
	kid := p.unary()
	p.deep--
	return p.add(op, api.Node{Kind: api.NUnary, Op: op.Kind, Kids: []int{kid}})
}

func (p *parser) atom() int {
	switch p.kind() {
	case api.TNumber:
		tok := p.take(api.TNumber)
		return p.add(tok, api.Node{Kind: api.NNumber, Num: tok.Num})
	case api.TName:
		return p.named()
	case api.TNow:
		return p.add(p.take(api.TNow), api.Node{Kind: api.NNow})
	case api.TMe:
		return p.add(p.take(api.TMe), api.Node{Kind: api.NMe})
	case api.TFrom:
		return p.add(p.take(api.TFrom), api.Node{Kind: api.NFrom})
	case api.TRoll:
		return p.throw(api.NRoll)
	case api.TWait:
		return p.throw(api.NWait)
	case api.TMin:
		return p.choice(api.NLeast)
	case api.TMax:
		return p.choice(api.NMost)
	case api.TOpen:
		return p.bracketed()
	}
	panic(p.refusal())
}

func (p *parser) named() int {
	name := p.take(api.TName)
	kind := api.NName
	kids := p.index()
	if len(kids) > 0 {
		kind = api.NIndex
	}
	return p.add(name, api.Node{Kind: kind, Name: name.Text, Kids: kids})
}

func (p *parser) throw(kind int) int {
	word := p.take(p.kind())
	return p.add(word, api.Node{Kind: kind, Kids: []int{p.bracketed()}})
}

func (p *parser) choice(kind int) int {
	word := p.take(p.kind())
	p.enter(api.TOpen)
	one := p.expression()
	p.take(api.TComma)
	other := p.expression()
	p.leave(api.TClose)
	return p.add(word, api.Node{Kind: kind, Kids: []int{one, other}})
}

// bracketed is the expression in round brackets, which leave no node of their own.
func (p *parser) bracketed() int {
	p.enter(api.TOpen)
	kid := p.expression()
	p.leave(api.TClose)
	return kid
}
