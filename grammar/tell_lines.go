package grammar

import "horizon/api"

func (t *teller) scene() { t.lines(t.nodes[0].Kids, t.item) }

func (t *teller) item(at int) {
	n := t.nodes[at]
	switch n.Kind {
	case api.NSetting:
		t.mark(n.Op)
		t.put(" ")
		t.number(n.Num)
	case api.NConst:
		t.headed(api.TConst, n.Name)
		t.value(n.Kids[0])
	case api.NKinds:
		t.mark(api.TKind)
		t.put(" ")
		t.row(n.Kids, t.name)
	case api.NType:
		t.headed(api.TType, n.Name)
		t.body(n.Kids, t.member)
	case api.NPlace:
		t.place(n)
	case api.NStart:
		t.start(n)
	}
}

func (t *teller) member(at int) {
	n := t.nodes[at]
	if n.Kind == api.NOn {
		t.headed(api.TOn, n.Name)
		t.bracketed(n.Kids[:1], t.name)
		t.block(n.Kids[1])
		return
	}
	sizes := n.Op & 1
	t.headed(api.TVar, n.Name)
	t.index(n.Kids[:sizes])
	if n.Op >= 2 {
		t.value(n.Kids[sizes])
	}
}

func (t *teller) place(n api.Node) {
	t.headed(api.TPlace, n.Name)
	t.index(n.Kids[:n.Op])
	t.between(api.TColon)
	t.name(n.Kids[n.Op])
	if gives := n.Kids[n.Op+1:]; len(gives) > 0 {
		t.put(" ")
		t.bracketed(gives, t.give)
	}
}

func (t *teller) give(at int) {
	n := t.nodes[at]
	t.token(n.Name)
	t.index(n.Kids[:n.Op])
	t.value(n.Kids[n.Op])
}

func (t *teller) start(n api.Node) {
	t.headed(api.TStart, n.Name)
	t.bracketed(n.Kids[:1], t.expression)
	t.between(api.TTo)
	t.name(n.Kids[1])
	t.index(n.Kids[2:])
	t.between(api.TAt)
	t.number(n.Num)
}

func (t *teller) block(at int) { t.body(t.nodes[at].Kids, t.statement) }

func (t *teller) statement(at int) {
	n := t.nodes[at]
	switch n.Kind {
	case api.NLet:
		t.headed(api.TLet, n.Name)
		t.value(n.Kids[0])
	case api.NSet:
		t.token(n.Name)
		t.value(n.Kids[0])
	case api.NSetAt:
		t.token(n.Name)
		t.index(n.Kids)
		t.value(n.Kids[1])
	case api.NIf:
		t.mark(api.TIf)
		t.branch(n)
	case api.NWhile:
		t.mark(api.TWhile)
		t.put(" ")
		t.expression(n.Kids[0])
		t.block(n.Kids[1])
	case api.NBreak:
		t.mark(api.TBreak)
	case api.NContinue:
		t.mark(api.TContinue)
	case api.NReturn:
		t.mark(api.TReturn)
	case api.NSend:
		t.send(n)
	case api.NFail:
		t.mark(api.TFail)
		t.put(" ")
		t.expression(n.Kids[0])
	}
}

// branch has all of an if that stands behind its word.
func (t *teller) branch(n api.Node) {
	t.put(" ")
	t.expression(n.Kids[0])
	t.block(n.Kids[1])
	if len(n.Kids) == 2 {
		return
	}
	t.put(" ")
	t.mark(api.TElse)
	if t.nodes[n.Kids[2]].Kind == api.NBlock {
		t.block(n.Kids[2])
		return
	}
	t.put(" ")
	t.open(api.TIf)
	t.branch(t.nodes[n.Kids[2]])
	t.deep--
}

func (t *teller) send(n api.Node) {
	t.headed(api.TSend, n.Name)
	t.bracketed(n.Kids[:1], t.expression)
	t.between(api.TTo)
	t.expression(n.Kids[1])
	t.between(api.TAfter)
	t.expression(n.Kids[2])
}
