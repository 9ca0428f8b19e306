package grammar

import (
	"horizon/api"
	"horizon/lexer"
)

// parser takes tokens from the front; it gives up by panic with a *api.PosError.
type parser struct {
	list []api.Token
	next int
	// How deep the place ahead of the next token is.
	deep int
	// A node is made behind all that lies in it, for an operator is seen behind its left side: Kids are places in this list.
	made []api.Node
}

// kind is 0, which no token has, at the list's end.
func (p *parser) kind() int {
	if p.next == len(p.list) {
		return 0
	}
	return p.list[p.next].Kind
}

// take takes the next token, which must be of this kind.
func (p *parser) take(kind int) api.Token {
	if p.kind() != kind {
		panic(p.refusal())
	}
	tok := p.list[p.next]
	if kind == api.TName && lexer.Word(tok.Text) != api.TName {
		panic(p.refusal())
	}
	p.next++
	return tok
}

// enter takes a token behind which it is one deeper.
func (p *parser) enter(kind int) api.Token {
	tok := p.take(kind)
	p.deep++
	if p.deep > api.MaxDeep {
		panic(faultAt(tok, api.ErrDeep))
	}
	return tok
}

// leave takes the bracket that closes what enter opened.
func (p *parser) leave(kind int) {
	p.take(kind)
	p.deep--
}

// refusal is the error of a next token that does not fit, or of a list that ends too early.
func (p *parser) refusal() error {
	if p.next < len(p.list) {
		return faultAt(p.list[p.next], api.ErrWant)
	}
	last := p.list[len(p.list)-1]
	last.Col += len(last.Text)
	return faultAt(last, api.ErrEnds)
}

func faultAt(tok api.Token, code api.Errno) error {
	return &api.PosError{Line: tok.Line, Col: tok.Col, Err: code}
}

// add makes a node that stands at a token, and answers its place among those made.
func (p *parser) add(at api.Token, n api.Node) int {
	n.Line, n.Col = at.Line, at.Col
	p.made = append(p.made, n)
	return len(p.made) - 1
}

// inOrder is the nodes that lie in root, each ahead of its kids.
func inOrder(made []api.Node, root int) []api.Node {
	nodes := make([]api.Node, 0, len(made))
	var lay func(from int) int
	lay = func(from int) int {
		to := len(nodes)
		nodes = append(nodes, made[from])
		for i, kid := range made[from].Kids {
			nodes[to].Kids[i] = lay(kid)
		}
		return to
	}
	lay(root)
	return nodes
}
