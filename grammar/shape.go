package grammar

import (
	"horizon/api"
	"horizon/lexer"
)

// The sorts of nodes that a place in the grammar may want; a node may be of several, a place may want one of several.
const (
	aScene = 1 << iota
	anItem
	aKind
	aMember
	aGive
	aBlock
	aStatement
	anIf
	anExpression
	aName
)

func sorts(kind int) int {
	switch kind {
	case api.NScene:
		return aScene
	case api.NSetting, api.NConst, api.NKinds, api.NType, api.NPlace, api.NStart:
		return anItem
	case api.NKind:
		return aKind
	case api.NVar, api.NOn:
		return aMember
	case api.NGive:
		return aGive
	case api.NBlock:
		return aBlock
	case api.NLet, api.NSet, api.NSetAt, api.NWhile, api.NBreak, api.NContinue, api.NReturn, api.NSend, api.NFail:
		return aStatement
	case api.NIf:
		return aStatement | anIf
	case api.NName:
		return anExpression | aName
	case api.NNumber, api.NIndex, api.NBinary, api.NUnary, api.NNow, api.NMe, api.NFrom, api.NRoll, api.NWait, api.NLeast, api.NMost:
		return anExpression
	}
	return 0
}

// shaper goes through nodes in the order in which a tree has them.
type shaper struct {
	nodes []api.Node
	// Where the next node must stand.
	next int
}

func wellShaped(nodes []api.Node) bool {
	s := shaper{nodes: nodes}
	return s.fits(0, aScene) && s.next == len(nodes) && nodes[0].Line == 1 && nodes[0].Col == 1
}

// fits tells whether the node at a place is wanted just there, with all that lies in it.
func (s *shaper) fits(at, want int) bool {
	if at != s.next || at >= len(s.nodes) {
		return false
	}
	s.next++
	n := s.nodes[at]
	return sorts(n.Kind)&want != 0 && nameFits(n) && numFits(n) && opFits(n) && s.kidsFit(n)
}

func nameFits(n api.Node) bool {
	switch n.Kind {
	case api.NConst, api.NKind, api.NType, api.NVar, api.NOn, api.NPlace, api.NGive, api.NStart,
		api.NLet, api.NSet, api.NSetAt, api.NSend, api.NName, api.NIndex:
		return lexer.Word(n.Name) == api.TName
	}
	return n.Name == ""
}

func numFits(n api.Node) bool {
	switch n.Kind {
	case api.NSetting, api.NStart, api.NNumber:
		return true
	}
	return n.Num == 0
}

func opFits(n api.Node) bool {
	switch n.Kind {
	case api.NSetting:
		return n.Op >= api.TSeed && n.Op <= api.TFuel
	case api.NVar:
		return n.Op >= 0 && n.Op <= 3
	case api.NPlace, api.NGive, api.NStart:
		return n.Op == 0 || n.Op == 1
	case api.NBinary:
		return binds(n.Op) != 0
	case api.NUnary:
		return isUnary(n.Op)
	}
	return n.Op == 0
}

func (s *shaper) kidsFit(n api.Node) bool {
	first, rest := wanted(n)
	if len(n.Kids) < len(first) {
		return false
	}
	for i, kid := range n.Kids {
		want := rest
		if i < len(first) {
			want = first[i]
		}
		if !s.fits(kid, want) {
			return false
		}
	}
	return true
}

// wanted is the sorts of the first kids of a node, which must be there, and that of all others, 0 if there are none; its Op fits.
func wanted(n api.Node) (first []int, rest int) {
	switch n.Kind {
	case api.NScene:
		return nil, anItem
	case api.NKinds:
		return []int{aKind}, aKind
	case api.NType:
		return nil, aMember
	case api.NVar:
		return expressions(n.Op&1 + n.Op>>1), 0
	case api.NOn:
		return []int{aName, aBlock}, 0
	case api.NPlace:
		return append(expressions(n.Op), aName), aGive
	case api.NGive:
		return expressions(n.Op + 1), 0
	case api.NStart:
		return append([]int{anExpression, aName}, expressions(n.Op)...), 0
	case api.NBlock:
		return nil, aStatement
	case api.NIf:
		if len(n.Kids) > 2 {
			return []int{anExpression, aBlock, aBlock | anIf}, 0
		}
		return []int{anExpression, aBlock}, 0
	case api.NWhile:
		return []int{anExpression, aBlock}, 0
	case api.NConst, api.NLet, api.NSet, api.NFail, api.NIndex, api.NUnary, api.NRoll, api.NWait:
		return expressions(1), 0
	case api.NSetAt, api.NBinary, api.NLeast, api.NMost:
		return expressions(2), 0
	case api.NSend:
		return expressions(3), 0
	}
	return nil, 0
}

func expressions(count int) []int {
	list := make([]int, count)
	for i := range list {
		list[i] = anExpression
	}
	return list
}
