package grammar_test

import (
	"strconv"

	"horizon/api"
	"horizon/lexer"
)

// speller writes a knot down as tokens, and notes in each knot where its own token stands.
type speller struct {
	list []api.Token
	// more says how many needless brackets stand around the next expression.
	more func() int
	// place gives the next token its place.
	place func(tok *api.Token)
}

// spelled is a scene's own tokens; place may be nil, more too.
func spelled(k *knot, more func() int, place func(tok *api.Token)) []api.Token {
	s := speller{more: more, place: place}
	for _, item := range k.kids {
		s.line(item)
	}
	return s.list
}

// own notes the last token's place as this knot's.
func (s *speller) own(k *knot) {
	last := s.list[len(s.list)-1]
	k.node.Line, k.node.Col = last.Line, last.Col
}

func (s *speller) token(tok api.Token) {
	if s.place != nil {
		s.place(&tok)
	}
	s.list = append(s.list, tok)
}

func (s *speller) mark(kinds ...int) {
	for _, kind := range kinds {
		s.token(api.Token{Kind: kind, Text: lexer.Mark(kind)})
	}
}

func (s *speller) name(name string) { s.token(api.Token{Kind: api.TName, Text: name}) }

func (s *speller) num(n uint64) {
	s.token(api.Token{Kind: api.TNumber, Text: strconv.FormatUint(n, 10), Num: n})
}

// word is the first token of a line, and the line's own.
func (s *speller) word(k *knot, kind int) {
	s.mark(kind)
	s.own(k)
	if k.node.Name != "" {
		s.name(k.node.Name)
	}
}

func (s *speller) named(k *knot) {
	s.name(k.node.Name)
	s.own(k)
}

func (s *speller) index(l []*knot) {
	for _, k := range l {
		s.mark(api.TOpenRow)
		s.expr(k)
		s.mark(api.TCloseRow)
	}
}

func (s *speller) value(k *knot) {
	s.mark(api.TSet)
	s.expr(k)
}

func (s *speller) bracketed(k *knot) {
	s.mark(api.TOpen)
	s.expr(k)
	s.mark(api.TClose)
}

func (s *speller) block(k *knot) {
	s.mark(api.TOpenBody)
	s.own(k)
	for _, kid := range k.kids {
		s.line(kid)
	}
	s.mark(api.TEndBody)
}

func (s *speller) line(k *knot) {
	kids, op := k.kids, k.node.Op
	switch k.node.Kind {
	case api.NSetting:
		s.word(k, op)
		s.num(k.node.Num)
	case api.NConst:
		s.word(k, api.TConst)
		s.value(kids[0])
	case api.NKinds:
		s.word(k, api.TKind)
		for i, kid := range kids {
			if i > 0 {
				s.mark(api.TComma)
			}
			s.named(kid)
		}
	case api.NType:
		s.word(k, api.TType)
		s.mark(api.TOpenBody)
		for _, kid := range kids {
			s.line(kid)
		}
		s.mark(api.TEndBody)
	case api.NVar:
		s.word(k, api.TVar)
		s.index(kids[:op%2])
		if op > 1 {
			s.value(kids[op%2])
		}
	case api.NOn:
		s.word(k, api.TOn)
		s.mark(api.TOpen)
		s.named(kids[0])
		s.mark(api.TClose)
		s.block(kids[1])
	case api.NPlace:
		s.word(k, api.TPlace)
		s.index(kids[:op])
		s.mark(api.TColon)
		s.named(kids[op])
		for i, g := range kids[op+1:] {
			s.mark([]int{api.TOpen, api.TComma}[min(i, 1)])
			s.named(g)
			s.index(g.kids[:g.node.Op])
			s.value(g.kids[g.node.Op])
		}
		if len(kids) > op+1 {
			s.mark(api.TClose)
		}
	case api.NStart:
		s.word(k, api.TStart)
		s.bracketed(kids[0])
		s.mark(api.TTo)
		s.named(kids[1])
		s.index(kids[2:])
		s.mark(api.TAt)
		s.num(k.node.Num)
	default:
		s.statement(k)
	}
}

func (s *speller) statement(k *knot) {
	kids := k.kids
	switch k.node.Kind {
	case api.NLet:
		s.word(k, api.TLet)
		s.value(kids[0])
	case api.NSet:
		s.named(k)
		s.value(kids[0])
	case api.NSetAt:
		s.named(k)
		s.index(kids[:1])
		s.value(kids[1])
	case api.NIf:
		s.word(k, api.TIf)
		s.expr(kids[0])
		s.block(kids[1])
		if len(kids) == 3 {
			s.mark(api.TElse)
			s.statement(kids[2])
		}
	case api.NBlock:
		s.block(k)
	case api.NWhile:
		s.word(k, api.TWhile)
		s.expr(kids[0])
		s.block(kids[1])
	case api.NBreak:
		s.word(k, api.TBreak)
	case api.NContinue:
		s.word(k, api.TContinue)
	case api.NReturn:
		s.word(k, api.TReturn)
	case api.NSend:
		s.word(k, api.TSend)
		s.bracketed(kids[0])
		s.mark(api.TTo)
		s.expr(kids[1])
		s.mark(api.TAfter)
		s.expr(kids[2])
	case api.NFail:
		s.word(k, api.TFail)
		s.expr(kids[0])
	}
}

// expr has the needless brackets around what it is given.
func (s *speller) expr(k *knot) {
	if s.more == nil {
		s.bare(k)
		return
	}
	more := s.more()
	for range more {
		s.mark(api.TOpen)
	}
	s.bare(k)
	for range more {
		s.mark(api.TClose)
	}
}

func (s *speller) operand(k *knot, i int) {
	if k.needs(i) {
		s.bracketed(k.kids[i])
		return
	}
	s.expr(k.kids[i])
}

func (s *speller) bare(k *knot) {
	calls := map[int]int{api.NRoll: api.TRoll, api.NWait: api.TWait, api.NLeast: api.TMin, api.NMost: api.TMax}
	bare := map[int]int{api.NNow: api.TNow, api.NMe: api.TMe, api.NFrom: api.TFrom}
	switch k.node.Kind {
	case api.NNumber:
		s.num(k.node.Num)
		s.own(k)
	case api.NName, api.NIndex:
		s.named(k)
		s.index(k.kids)
	case api.NBinary:
		s.operand(k, 0)
		s.mark(k.node.Op)
		s.own(k)
		s.operand(k, 1)
	case api.NUnary:
		s.mark(k.node.Op)
		s.own(k)
		s.operand(k, 0)
	case api.NNow, api.NMe, api.NFrom:
		s.word(k, bare[k.node.Kind])
	default:
		s.word(k, calls[k.node.Kind])
		for i, kid := range k.kids {
			s.mark([]int{api.TOpen, api.TComma}[i])
			s.expr(kid)
		}
		s.mark(api.TClose)
	}
}
