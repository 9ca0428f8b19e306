package grammar_test

import (
	"math"
	"regexp"
	"slices"
	"strings"
	"testing"

	"horizon/api"
	"horizon/grammar"
	"horizon/lexer"
)

// Letters of the sorts of nodes: i item, k kind, m var or on, g give, b block, f if, s another statement, n name, e another expression.
const letters = ".Siiikimmigi........bsssfssssss.........eneeeeeeeeee"

// letter is ! for what is no node in any place.
func letter(kind int) byte {
	if kind < 0 || kind >= len(letters) {
		return '!'
	}
	return letters[kind]
}

// shape is a row of DOC.md's table: the Kids for each Op that can be.
type shape struct {
	name, num bool
	kids      map[int]string
}

func alike(kids string, ops ...int) map[int]string {
	m := map[int]string{}
	for _, op := range ops {
		m[op] = kids
	}
	return m
}

var shapes = map[int]shape{
	api.NScene:    {false, false, alike("i*", 0)},
	api.NSetting:  {false, true, alike("", api.TSeed, api.TLook, api.TEnd, api.TBudget, api.TFuel)},
	api.NConst:    {true, false, alike("[en]", 0)},
	api.NKinds:    {false, false, alike("k+", 0)},
	api.NKind:     {true, false, alike("", 0)},
	api.NType:     {true, false, alike("m*", 0)},
	api.NVar:      {true, false, map[int]string{0: "", 1: "[en]", 2: "[en]", 3: "[en]{2}"}},
	api.NOn:       {true, false, alike("nb", 0)},
	api.NPlace:    {true, false, map[int]string{0: "ng*", 1: "[en]ng*"}},
	api.NGive:     {true, false, map[int]string{0: "[en]", 1: "[en]{2}"}},
	api.NStart:    {true, true, map[int]string{0: "[en]n", 1: "[en]n[en]"}},
	api.NBlock:    {false, false, alike("[sf]*", 0)},
	api.NLet:      {true, false, alike("[en]", 0)},
	api.NSet:      {true, false, alike("[en]", 0)},
	api.NSetAt:    {true, false, alike("[en]{2}", 0)},
	api.NIf:       {false, false, alike("[en]b[bf]?", 0)},
	api.NWhile:    {false, false, alike("[en]b", 0)},
	api.NBreak:    {false, false, alike("", 0)},
	api.NContinue: {false, false, alike("", 0)},
	api.NReturn:   {false, false, alike("", 0)},
	api.NSend:     {true, false, alike("[en]{3}", 0)},
	api.NFail:     {false, false, alike("[en]", 0)},
	api.NNumber:   {false, true, alike("", 0)},
	api.NName:     {true, false, alike("", 0)},
	api.NIndex:    {true, false, alike("[en]", 0)},
	api.NBinary:   {false, false, alike("[en]{2}", binaries...)},
	api.NUnary:    {false, false, alike("[en]", unaries...)},
	api.NNow:      {false, false, alike("", 0)},
	api.NMe:       {false, false, alike("", 0)},
	api.NFrom:     {false, false, alike("", 0)},
	api.NRoll:     {false, false, alike("[en]", 0)},
	api.NWait:     {false, false, alike("[en]", 0)},
	api.NLeast:    {false, false, alike("[en]{2}", 0)},
	api.NMost:     {false, false, alike("[en]{2}", 0)},
}

var patterns = func() map[string]*regexp.Regexp {
	m := map[string]*regexp.Regexp{}
	for _, s := range shapes {
		for _, kids := range s.kids {
			m[kids] = regexp.MustCompile("^(" + kids + ")$")
		}
	}
	return m
}()

// shaped tells by the table whether each node is one, with kids of the right sorts.
func shaped(t api.Tree) bool {
	for _, n := range t.Nodes {
		s, known := shapes[n.Kind]
		kids, can := s.kids[n.Op]
		if !known || !can || !s.num && n.Num != 0 || !s.name && n.Name != "" || s.name && lexer.Word(n.Name) != api.TName {
			return false
		}
		row := ""
		for _, kid := range n.Kids {
			if kid < 0 || kid >= len(t.Nodes) {
				return false
			}
			row += string(letter(t.Nodes[kid].Kind))
		}
		if !patterns[kids].MatchString(row) {
			return false
		}
	}
	return true
}

// ordered tells whether going down from the scene meets each node once, in the order of their places.
func ordered(t api.Tree) bool {
	met := 0
	for todo := []int{0}; len(todo) > 0; met++ {
		if todo[0] != met {
			return false
		}
		todo = append(slices.Clone(t.Nodes[met].Kids), todo[1:]...)
	}
	return met == len(t.Nodes)
}

// judged is what the chapter's words say of a tree.
func judged(t api.Tree) api.Errno {
	if len(t.Nodes) > api.MaxNodes {
		return api.ErrNodes
	}
	if len(t.Nodes) == 0 || t.Nodes[0].Kind != api.NScene || t.Nodes[0].Line != 1 || t.Nodes[0].Col != 1 || !shaped(t) || !ordered(t) {
		return api.ErrTree
	}
	l := spelled(knots(t, 0), nil, nil)
	deep, opens := depths(l)
	for i := range l {
		if opens[i] && deep[i] > api.MaxDeep {
			return api.ErrDeep
		}
	}
	if len(l) > api.MaxTokens {
		return api.ErrTokens
	}
	return api.OK
}

func checkValid(t *testing.T, tree api.Tree, want api.Errno) {
	t.Helper()
	if got := grammar.Valid(tree); got != want {
		t.Fatalf("Valid(%+v) = %d, not %d", tree, got, want)
	}
}

// one of each kind of nodes, each as it may stand in some tree.
func samples() []*knot {
	one := func() *knot { return tie(api.NNumber, "", 1, 0) }
	name := func() *knot { return tie(api.NName, "x", 0, 0) }
	block := func() *knot { return tie(api.NBlock, "", 0, 0) }
	l := []*knot{
		tie(api.NScene, "", 0, 0), tie(api.NSetting, "", 1, api.TLook), tie(api.NConst, "x", 0, 0, one()),
		tie(api.NKinds, "", 0, 0, tie(api.NKind, "x", 0, 0)), tie(api.NKind, "x", 0, 0), tie(api.NType, "x", 0, 0),
		tie(api.NVar, "x", 0, 0), tie(api.NOn, "x", 0, 0, name(), block()), tie(api.NPlace, "x", 0, 0, name()),
		tie(api.NGive, "x", 0, 0, one()), tie(api.NStart, "x", 1, 0, one(), name()), block(), tie(api.NLet, "x", 0, 0, one()),
		tie(api.NSet, "x", 0, 0, one()), tie(api.NSetAt, "x", 0, 0, one(), one()), tie(api.NIf, "", 0, 0, one(), block()),
		tie(api.NWhile, "", 0, 0, one(), block()), tie(api.NBreak, "", 0, 0), tie(api.NContinue, "", 0, 0),
		tie(api.NReturn, "", 0, 0), tie(api.NSend, "x", 0, 0, one(), one(), one()), tie(api.NFail, "", 0, 0, one()),
		one(), name(), tie(api.NIndex, "x", 0, 0, one()), tie(api.NBinary, "", 0, api.OpAdd, one(), one()),
		tie(api.NUnary, "", 0, api.OpSub, one()), tie(api.NNow, "", 0, 0), tie(api.NMe, "", 0, 0), tie(api.NFrom, "", 0, 0),
		tie(api.NRoll, "", 0, 0, one()), tie(api.NWait, "", 0, 0, one()), tie(api.NLeast, "", 0, 0, one(), one()), tie(api.NMost, "", 0, 0, one(), one()),
	}
	l[0].node.Line, l[0].node.Col = 1, 1
	return l
}

// Trees that have between them all that a node can have.
func whole(t *testing.T) []api.Tree {
	var l []api.Tree
	for _, src := range scenes {
		tree, err := grammar.Parse(src)
		if err != nil {
			t.Fatal(err)
		}
		l = append(l, tree)
	}
	return l
}

// 4.3, 2.: every field of every node with every value that could be mistaken.
func TestValidFields(t *testing.T) {
	names := []string{"", "x", "X_9", "if", "_x", "x y", "1", strings.Repeat("a", 31), strings.Repeat("a", 32)}
	for _, tree := range whole(t) {
		checkValid(t, tree, api.OK)
		for i := range tree.Nodes {
			try := func(change func(n *api.Node)) {
				spoilt := copied(tree)
				change(&spoilt.Nodes[i])
				checkValid(t, spoilt, judged(spoilt))
			}
			for kind := -2; kind <= 60; kind++ {
				try(func(n *api.Node) { n.Kind = kind })
				try(func(n *api.Node) { n.Kind, n.Num = kind, 0 })
				try(func(n *api.Node) { n.Kind, n.Name, n.Num, n.Op = kind, "x", 0, 0 })
				try(func(n *api.Node) { n.Kind, n.Name, n.Num, n.Op = kind, "", 0, 0 })
				try(func(n *api.Node) { n.Kind, n.Name, n.Op = kind, "", api.OpSub })
			}
			for op := -3; op <= 83; op++ {
				try(func(n *api.Node) { n.Op = op })
			}
			for _, op := range []int{math.MinInt, math.MaxInt, 1 << 32, 1<<32 + api.OpAdd} {
				try(func(n *api.Node) { n.Op = op })
				try(func(n *api.Node) { n.Kind = op })
			}
			for _, name := range names {
				try(func(n *api.Node) { n.Name = name })
			}
			for _, num := range []uint64{0, 1, math.MaxUint64} {
				try(func(n *api.Node) { n.Num = num })
			}
			for _, place := range []int{math.MinInt, -1, 0, 1, 2, math.MaxInt} {
				try(func(n *api.Node) { n.Line = place })
				try(func(n *api.Node) { n.Col = place })
			}
			try(func(n *api.Node) { n.Kids = append(make([]int, 0), n.Kids...) })
		}
	}
}

// 4.3, 2.: Kids that are not there, stand elsewhere, come twice, are left out, or turn back.
func TestValidKids(t *testing.T) {
	for _, tree := range whole(t) {
		for i := range tree.Nodes {
			try := func(change func(kids []int) []int) {
				spoilt := copied(tree)
				spoilt.Nodes[i].Kids = change(spoilt.Nodes[i].Kids)
				checkValid(t, spoilt, judged(spoilt))
			}
			places := []int{math.MinInt, -1, 0, i, i + 1, i + 2, len(tree.Nodes) - 1, len(tree.Nodes), math.MaxInt}
			try(func(kids []int) []int { return nil })
			for j := range tree.Nodes[i].Kids {
				try(func(kids []int) []int { return slices.Delete(kids, j, j+1) })
				try(func(kids []int) []int { kids[0], kids[j] = kids[j], kids[0]; return kids })
				for _, at := range places {
					try(func(kids []int) []int { kids[j] = at; return kids })
				}
			}
			for _, at := range places {
				try(func(kids []int) []int { return append(kids, at) })
				try(func(kids []int) []int { return slices.Insert(kids, 0, at) })
			}
		}
		for i := range tree.Nodes {
			spoilt := copied(tree)
			spoilt.Nodes = slices.Delete(spoilt.Nodes, i, i+1)
			checkValid(t, spoilt, judged(spoilt))
			spoilt = copied(tree)
			spoilt.Nodes = slices.Insert(spoilt.Nodes, i, api.Node{Kind: api.NNumber})
			checkValid(t, spoilt, judged(spoilt))
		}
		checkValid(t, api.Tree{Nodes: append(copied(tree).Nodes, api.Node{Kind: api.NNow})}, api.ErrTree)
		checkValid(t, api.Tree{Nodes: append(copied(tree).Nodes, api.Node{Kind: api.NScene, Line: 1, Col: 1})}, api.ErrTree)
	}
}

// all is a knot and all that lies in it.
func all(k *knot) []*knot {
	l := []*knot{k}
	for _, kid := range k.kids {
		l = append(l, all(kid)...)
	}
	return l
}

// 4.3, 2.: a node of each kind in the place of each other one, ahead of it and behind it, with all nodes in their order.
func TestValidSorts(t *testing.T) {
	ok := 0
	for _, tree := range whole(t) {
		root := knots(tree, 0)
		try := func() {
			changed := flat(root)
			want := judged(changed)
			checkValid(t, changed, want)
			if want == api.OK {
				ok++
			}
		}
		for _, sample := range samples() {
			kept := *root
			*root = *sample
			try()
			*root = kept
			for _, k := range all(root) {
				kids := k.kids
				for i := range len(kids) + 1 {
					k.kids = slices.Insert(slices.Clone(kids), i, sample)
					try()
					if i < len(kids) {
						k.kids = slices.Replace(slices.Clone(kids), i, i+1, sample)
						try()
					}
				}
				k.kids = kids
			}
		}
	}
	if ok == 0 {
		t.Error("nothing that was put elsewhere fits")
	}
}

// 4.3: thrown trees are valid; with other kinds and numbers of nodes in them they are what the words say.
func TestValidThrown(t *testing.T) {
	for seed := range 3000 {
		c := chance(seed)
		root := c.scene(seed % 5)
		checkValid(t, flat(root), api.OK)
		list := all(root)
		one, other := list[c.below(len(list))], list[c.below(len(list))]
		kept := one.node
		one.node.Kind, one.node.Op = other.node.Kind, other.node.Op
		checkValid(t, flat(root), judged(flat(root)))
		one.node = kept
	}
}

// around is an expression in so many nodes of one kind.
func around(deep int, kind, op int) *knot {
	k := tie(api.NNumber, "", 1, 0)
	for range deep {
		name := ""
		if kind == api.NIndex {
			name = "a"
		}
		k = tie(kind, name, 0, op, k)
		if kind == api.NLeast || kind == api.NMost {
			k.kids = append(k.kids, tie(api.NNumber, "", 2, 0))
		}
	}
	return k
}

func sceneOf(items ...*knot) *knot {
	k := tie(api.NScene, "", 0, 0, items...)
	k.node.Line, k.node.Col = 1, 1
	return k
}

func handlerOf(list ...*knot) *knot {
	return tie(api.NType, "T", 0, 0, tie(api.NOn, "k", 0, 0, tie(api.NName, "x", 0, 0), tie(api.NBlock, "", 0, 0, list...)))
}

// 4.3, 3.: 48 deep is OK, 49 is ErrDeep, whatever it is made of.
func TestValidDeep(t *testing.T) {
	one := func() *knot { return tie(api.NNumber, "", 1, 0) }
	// Each makes a scene that is as deep as it is told.
	makers := map[string]func(deep int) *knot{
		"right sides": func(deep int) *knot {
			k := one()
			for range deep + 1 {
				k = tie(api.NBinary, "", 0, api.OpSub, one(), k)
			}
			return sceneOf(tie(api.NConst, "A", 0, 0, k))
		},
		"comparisons": func(deep int) *knot {
			k := one()
			for range deep + 1 {
				k = tie(api.NBinary, "", 0, api.OpLt, k, one())
			}
			return sceneOf(tie(api.NConst, "A", 0, 0, k))
		},
		"size of a var": func(deep int) *knot {
			return sceneOf(tie(api.NType, "T", 0, 0, tie(api.NVar, "a", 0, 1, around(deep-2, api.NRoll, 0))))
		},
		"value of a var": func(deep int) *knot {
			return sceneOf(tie(api.NType, "T", 0, 0, tie(api.NVar, "a", 0, 2, around(deep-1, api.NRoll, 0))))
		},
		"size of a place": func(deep int) *knot {
			return sceneOf(tie(api.NPlace, "p", 0, 1, around(deep-1, api.NRoll, 0), tie(api.NName, "T", 0, 0)))
		},
		"value of a give": func(deep int) *knot {
			return sceneOf(tie(api.NPlace, "p", 0, 0, tie(api.NName, "T", 0, 0), tie(api.NGive, "a", 0, 0, around(deep-1, api.NRoll, 0))))
		},
		"index of a give": func(deep int) *knot {
			return sceneOf(tie(api.NPlace, "p", 0, 0, tie(api.NName, "T", 0, 0), tie(api.NGive, "a", 0, 1, around(deep-2, api.NRoll, 0), one())))
		},
		"data of a start": func(deep int) *knot {
			return sceneOf(tie(api.NStart, "k", 0, 0, around(deep-1, api.NRoll, 0), tie(api.NName, "p", 0, 0)))
		},
		"index of a start": func(deep int) *knot {
			return sceneOf(tie(api.NStart, "k", 0, 1, one(), tie(api.NName, "p", 0, 0), around(deep-1, api.NRoll, 0)))
		},
		"value of a let": func(deep int) *knot {
			return sceneOf(handlerOf(tie(api.NLet, "a", 0, 0, around(deep-2, api.NUnary, api.OpNot))))
		},
		"value of a set": func(deep int) *knot {
			return sceneOf(handlerOf(tie(api.NSet, "a", 0, 0, around(deep-2, api.NUnary, api.OpNot))))
		},
		"index of a set at": func(deep int) *knot {
			return sceneOf(handlerOf(tie(api.NSetAt, "a", 0, 0, around(deep-3, api.NUnary, api.OpNot), one())))
		},
		"value of a set at": func(deep int) *knot {
			return sceneOf(handlerOf(tie(api.NSetAt, "a", 0, 0, one(), around(deep-2, api.NUnary, api.OpNot))))
		},
		"data of a send": func(deep int) *knot {
			return sceneOf(handlerOf(tie(api.NSend, "a", 0, 0, around(deep-3, api.NWait, 0), one(), one())))
		},
		"target of a send": func(deep int) *knot {
			return sceneOf(handlerOf(tie(api.NSend, "a", 0, 0, one(), around(deep-2, api.NWait, 0), one())))
		},
		"delay of a send": func(deep int) *knot {
			return sceneOf(handlerOf(tie(api.NSend, "a", 0, 0, one(), one(), around(deep-2, api.NWait, 0))))
		},
		"fail": func(deep int) *knot {
			return sceneOf(handlerOf(tie(api.NFail, "", 0, 0, around(deep-2, api.NWait, 0))))
		},
		"condition": func(deep int) *knot {
			return sceneOf(handlerOf(tie(api.NIf, "", 0, 0, around(deep-2, api.NWait, 0), tie(api.NBlock, "", 0, 0))))
		},
		"blocks": func(deep int) *knot {
			k := tie(api.NBreak, "", 0, 0)
			for range deep - 2 {
				k = tie(api.NWhile, "", 0, 0, one(), tie(api.NBlock, "", 0, 0, k))
			}
			return sceneOf(handlerOf(k))
		},
		"ifs behind elses": func(deep int) *knot {
			k := tie(api.NBlock, "", 0, 0)
			for range deep - 2 {
				k = tie(api.NIf, "", 0, 0, one(), tie(api.NBlock, "", 0, 0), k)
			}
			return sceneOf(handlerOf(k), handlerOf(tie(api.NReturn, "", 0, 0)))
		},
		"condition behind an else": func(deep int) *knot {
			last := tie(api.NIf, "", 0, 0, around(deep-3, api.NUnary, api.OpFlip), tie(api.NBlock, "", 0, 0))
			return sceneOf(handlerOf(tie(api.NIf, "", 0, 0, one(), tie(api.NBlock, "", 0, 0), last)))
		},
	}
	for _, kind := range []int{api.NIndex, api.NRoll, api.NWait, api.NLeast, api.NMost} {
		makers["calls"+string(rune('0'+kind%10))] = func(deep int) *knot { return sceneOf(tie(api.NConst, "A", 0, 0, around(deep, kind, 0))) }
	}
	for _, op := range unaries {
		makers["unary"+lexer.Mark(op)] = func(deep int) *knot { return sceneOf(tie(api.NConst, "A", 0, 0, around(deep, api.NUnary, op))) }
	}
	for name, make := range makers {
		for deep, want := range map[int]api.Errno{47: api.OK, 48: api.OK, 49: api.ErrDeep, 50: api.ErrDeep, 3000: api.ErrDeep} {
			tree := flat(make(deep))
			if got := grammar.Valid(tree); got != want || deep < 100 && judged(tree) != want {
				t.Errorf("%s, %d deep: Valid = %d, not %d", name, deep, got, want)
			}
			if s, got := grammar.Print(tree); got != want || want != api.OK && s != "" {
				t.Errorf("%s, %d deep: Print = %q, %d", name, deep, few(s), got)
			}
			if got := grammar.Walk(tree, 0, nil); got != want {
				t.Errorf("%s, %d deep: Walk = %d", name, deep, got)
			}
		}
	}
}

// 4.3, 3.: left sides in one another need no brackets and are not deep.
func TestValidLeft(t *testing.T) {
	k := tie(api.NNumber, "", 1, 0)
	for range 8000 {
		k = tie(api.NBinary, "", 0, api.OpSub, k, tie(api.NUnary, "", 0, api.OpSub, tie(api.NNumber, "", 1, 0)))
	}
	checkValid(t, flat(sceneOf(tie(api.NConst, "A", 0, 0, k))), api.ErrNodes)
	k = tie(api.NNumber, "", 1, 0)
	for range 4000 {
		k = tie(api.NBinary, "", 0, api.OpSub, k, tie(api.NUnary, "", 0, api.OpSub, tie(api.NNumber, "", 1, 0)))
	}
	checkValid(t, flat(sceneOf(tie(api.NConst, "A", 0, 0, k))), api.OK)
}

// 4.3, 3.: what has ended is not deep any more, however often it comes.
func TestValidEnded(t *testing.T) {
	for _, one := range []string{
		"if x { } else if y { }", "if x { } else if y { } else { }", "a = -1 - -2", "a = -(1 - 2)", "a[-1] = b[2]", "if -x { }", "while (1 < 2) < 3 { }",
		"send k(-1) to -2 after -3", "fail -(1 - 2)", "let a = min(-1, max(2, roll(wait(3))))", "if x { if x { } else if y { } } else if !y { }",
	} {
		tree, err := grammar.Parse("type T { on k(x) { " + strings.Repeat(one+" ", 60) + "} }")
		if err != nil {
			t.Fatal(err)
		}
		checkValid(t, tree, api.OK)
	}
	for _, one := range []string{"type T { var a[-1] = -2 on k(x) { } }", "place p[-1] : T (a[-1] = -2, b = -3)", "start k(-1) to p[-2] at 3", "const A = -1"} {
		tree, err := grammar.Parse(strings.Repeat(one+" ", 60))
		if err != nil {
			t.Fatal(err)
		}
		checkValid(t, tree, api.OK)
	}
}

// filled has so many own tokens: four in each const, two in a setting, thirteen in a type where the number is odd.
func filled(tokens int) *knot {
	var items []*knot
	for left := tokens; left > 0; {
		if left%2 == 1 {
			items = append(items, tie(api.NType, "T", 0, 0, tie(api.NVar, "a", 0, 2, tie(api.NNow, "", 0, 0)), tie(api.NVar, "b", 0, 1, tie(api.NNow, "", 0, 0))))
			left -= 13
			continue
		}
		if left%4 == 2 {
			items = append(items, tie(api.NSetting, "", 1, api.TEnd))
			left -= 2
			continue
		}
		items = append(items, tie(api.NConst, "A", 0, 0, tie(api.NMe, "", 0, 0)))
		left -= 4
	}
	return sceneOf(items...)
}

// 4.3, 4.: MaxTokens own tokens are OK, one more is ErrTokens; what is too deep is told ahead of that, what is no tree ahead of both.
func TestValidTokens(t *testing.T) {
	for tokens, want := range map[int]api.Errno{
		api.MaxTokens - 1: api.OK, api.MaxTokens: api.OK, api.MaxTokens + 1: api.ErrTokens, api.MaxTokens + 2: api.ErrTokens, api.MaxTokens + 9999: api.ErrTokens,
	} {
		root := filled(tokens)
		if n := len(spelled(root, nil, nil)); n != tokens {
			t.Fatalf("%d own tokens, not %d", n, tokens)
		}
		tree := flat(root)
		checkValid(t, tree, want)
		if s, got := grammar.Print(tree); want != api.OK && (s != "" || got != want) {
			t.Errorf("Print of %d tokens: %q, %d", tokens, few(s), got)
		}
		root.kids = append(root.kids, tie(api.NConst, "A", 0, 0, around(49, api.NUnary, api.OpSub)))
		checkValid(t, flat(root), api.ErrDeep)
		root.kids = append(root.kids, tie(api.NKinds, "", 0, 0))
		checkValid(t, flat(root), api.ErrTree)
	}
}

// 4.3, 4.: each node brings just the tokens that it is written with.
func TestValidCountsTokens(t *testing.T) {
	trees := whole(t)
	for seed := range 200 {
		c := chance(seed)
		trees = append(trees, flat(c.scene(4)))
	}
	for _, tree := range trees {
		root := knots(tree, 0)
		own := len(spelled(root, nil, nil))
		for extra, want := range []api.Errno{api.OK, api.ErrTokens} {
			more := filled(api.MaxTokens - own + extra)
			checkValid(t, flat(sceneOf(append(more.kids, root.kids...)...)), want)
		}
	}
}

// 4.3, 1. and 2.: too many nodes are told ahead of all else; none, and what is no scene, are no tree.
func TestValidNodes(t *testing.T) {
	kinds := tie(api.NKinds, "", 0, 0)
	for range api.MaxNodes - 2 {
		kinds.kids = append(kinds.kids, tie(api.NKind, "a", 0, 0))
	}
	tree := flat(sceneOf(kinds))
	checkValid(t, tree, api.ErrTokens)
	checkValid(t, api.Tree{Nodes: append(tree.Nodes, api.Node{})}, api.ErrNodes)
	checkValid(t, api.Tree{Nodes: make([]api.Node, api.MaxNodes)}, api.ErrTree)
	checkValid(t, api.Tree{Nodes: make([]api.Node, api.MaxNodes+1)}, api.ErrNodes)
	for _, none := range []api.Tree{{}, {Nodes: []api.Node{}}, {Nodes: []api.Node{{}}}} {
		checkValid(t, none, api.ErrTree)
	}
	checkValid(t, api.Tree{Nodes: []api.Node{{Kind: api.NScene, Line: 1, Col: 1}}}, api.OK)
	checkValid(t, api.Tree{Nodes: []api.Node{{Kind: api.NScene, Line: 1, Col: 1, Kids: []int{0}}}}, api.ErrTree)
	checkValid(t, api.Tree{Nodes: []api.Node{{Kind: api.NBlock, Line: 1, Col: 1}}}, api.ErrTree)
}

// 4.3: the examples.
func TestValidExamples(t *testing.T) {
	tree, _ := grammar.Parse("look 5")
	tree.Nodes[1].Op = api.TFuel
	checkValid(t, tree, api.OK)
	tree.Nodes[1].Name = "x"
	checkValid(t, tree, api.ErrTree)
	tree, _ = grammar.Parse("const A = 1 + 2 * 3")
	tree.Nodes[2].Kids = []int{4, 3}
	checkValid(t, tree, api.ErrTree)
}

// 0.4: what is asked about stays as it is.
func TestTreesStay(t *testing.T) {
	for _, tree := range whole(t) {
		kept := copied(tree)
		grammar.Valid(tree)
		grammar.Print(tree)
		grammar.Walk(tree, 0, func(node, deep int) bool { return true })
		grammar.Same(tree, tree)
		if !equal(tree, kept) {
			t.Errorf("a tree was changed: %+v", tree)
		}
	}
}
