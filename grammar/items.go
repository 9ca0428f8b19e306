package grammar

import "horizon/api"

func (p *parser) scene() int {
	var items []int
	for p.next < len(p.list) {
		items = append(items, p.item())
	}
	return p.add(api.Token{Line: 1, Col: 1}, api.Node{Kind: api.NScene, Kids: items})
}

func (p *parser) item() int {
	switch p.kind() {
	case api.TSeed, api.TLook, api.TEnd, api.TBudget, api.TFuel:
		return p.setting()
	case api.TConst:
		return p.constant()
	case api.TKind:
		return p.kinds()
	case api.TType:
		return p.partType()
	case api.TPlace:
		return p.place()
	case api.TStart:
		return p.start()
	}
	panic(p.refusal())
}

func (p *parser) setting() int {
	word := p.take(p.kind())
	return p.add(word, api.Node{Kind: api.NSetting, Num: p.take(api.TNumber).Num, Op: word.Kind})
}

func (p *parser) constant() int {
	word := p.take(api.TConst)
	name := p.take(api.TName).Text
	return p.add(word, api.Node{Kind: api.NConst, Name: name, Kids: []int{p.value()}})
}

// value is an expression behind a =.
func (p *parser) value() int {
	p.take(api.TSet)
	return p.expression()
}

func (p *parser) kinds() int {
	word := p.take(api.TKind)
	kids := []int{p.name(api.NKind)}
	for p.kind() == api.TComma {
		p.take(api.TComma)
		kids = append(kids, p.name(api.NKind))
	}
	return p.add(word, api.Node{Kind: api.NKinds, Kids: kids})
}

// name makes a node of this kind that is a name and nothing else.
func (p *parser) name(kind int) int {
	tok := p.take(api.TName)
	return p.add(tok, api.Node{Kind: kind, Name: tok.Text})
}

func (p *parser) partType() int {
	word := p.take(api.TType)
	name := p.take(api.TName).Text
	p.enter(api.TOpenBody)
	var members []int
	for p.kind() != api.TEndBody {
		members = append(members, p.member())
	}
	p.leave(api.TEndBody)
	return p.add(word, api.Node{Kind: api.NType, Name: name, Kids: members})
}

func (p *parser) member() int {
	switch p.kind() {
	case api.TVar:
		return p.variable()
	case api.TOn:
		return p.handler()
	}
	panic(p.refusal())
}

func (p *parser) variable() int {
	word := p.take(api.TVar)
	name := p.take(api.TName).Text
	kids := p.index()
	has := len(kids)
	if p.kind() == api.TSet {
		kids = append(kids, p.value())
		has += 2
	}
	return p.add(word, api.Node{Kind: api.NVar, Name: name, Op: has, Kids: kids})
}

// index is a size or an index in its brackets, if there is one.
func (p *parser) index() []int {
	if p.kind() != api.TOpenRow {
		return nil
	}
	p.enter(api.TOpenRow)
	kid := p.expression()
	p.leave(api.TCloseRow)
	return []int{kid}
}

func (p *parser) handler() int {
	word := p.take(api.TOn)
	name := p.take(api.TName).Text
	p.enter(api.TOpen)
	data := p.name(api.NName)
	p.leave(api.TClose)
	return p.add(word, api.Node{Kind: api.NOn, Name: name, Kids: []int{data, p.block()}})
}

func (p *parser) place() int {
	word := p.take(api.TPlace)
	name := p.take(api.TName).Text
	kids := p.index()
	has := len(kids)
	p.take(api.TColon)
	kids = append(kids, p.name(api.NName))
	if p.kind() == api.TOpen {
		kids = append(kids, p.gives()...)
	}
	return p.add(word, api.Node{Kind: api.NPlace, Name: name, Op: has, Kids: kids})
}

func (p *parser) gives() []int {
	p.enter(api.TOpen)
	list := []int{p.give()}
	for p.kind() == api.TComma {
		p.take(api.TComma)
		list = append(list, p.give())
	}
	p.leave(api.TClose)
	return list
}

func (p *parser) give() int {
	name := p.take(api.TName)
	kids := p.index()
	has := len(kids)
	kids = append(kids, p.value())
	return p.add(name, api.Node{Kind: api.NGive, Name: name.Text, Op: has, Kids: kids})
}

func (p *parser) start() int {
	word := p.take(api.TStart)
	name := p.take(api.TName).Text
	kids := []int{p.bracketed()}
	p.take(api.TTo)
	kids = append(kids, p.name(api.NName))
	index := p.index()
	kids = append(kids, index...)
	p.take(api.TAt)
	return p.add(word, api.Node{Kind: api.NStart, Name: name, Num: p.take(api.TNumber).Num, Op: len(index), Kids: kids})
}
