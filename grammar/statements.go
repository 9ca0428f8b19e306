package grammar

import "horizon/api"

func (p *parser) block() int {
	first := p.enter(api.TOpenBody)
	var list []int
	for p.kind() != api.TEndBody {
		list = append(list, p.statement())
	}
	p.leave(api.TEndBody)
	return p.add(first, api.Node{Kind: api.NBlock, Kids: list})
}

func (p *parser) statement() int {
	switch p.kind() {
	case api.TLet:
		word := p.take(api.TLet)
		name := p.take(api.TName).Text
		return p.add(word, api.Node{Kind: api.NLet, Name: name, Kids: []int{p.value()}})
	case api.TName:
		return p.set()
	case api.TIf:
		return p.branch(p.take(api.TIf))
	case api.TWhile:
		word := p.take(api.TWhile)
		return p.add(word, api.Node{Kind: api.NWhile, Kids: []int{p.expression(), p.block()}})
	case api.TBreak:
		return p.add(p.take(api.TBreak), api.Node{Kind: api.NBreak})
	case api.TContinue:
		return p.add(p.take(api.TContinue), api.Node{Kind: api.NContinue})
	case api.TReturn:
		return p.add(p.take(api.TReturn), api.Node{Kind: api.NReturn})
	case api.TSend:
		return p.send()
	case api.TFail:
		word := p.take(api.TFail)
		return p.add(word, api.Node{Kind: api.NFail, Kids: []int{p.expression()}})
	}
	panic(p.refusal())
}

func (p *parser) set() int {
	name := p.take(api.TName)
	kind := api.NSet
	kids := p.index()
	if len(kids) > 0 {
		kind = api.NSetAt
	}
	kids = append(kids, p.value())
	return p.add(name, api.Node{Kind: kind, Name: name.Text, Kids: kids})
}

// branch is a whole if whose word is taken.
func (p *parser) branch(word api.Token) int {
	kids := []int{p.expression(), p.block()}
	if p.kind() == api.TElse {
		p.take(api.TElse)
		kids = append(kids, p.otherwise())
	}
	return p.add(word, api.Node{Kind: api.NIf, Kids: kids})
}

func (p *parser) otherwise() int {
	if p.kind() != api.TIf {
		return p.block()
	}
	kid := p.branch(p.enter(api.TIf))
	p.deep--
	return kid
}

func (p *parser) send() int {
	word := p.take(api.TSend)
	name := p.take(api.TName).Text
	data := p.bracketed()
	p.take(api.TTo)
	target := p.expression()
	p.take(api.TAfter)
	return p.add(word, api.Node{Kind: api.NSend, Name: name, Kids: []int{data, target, p.expression()}})
}
