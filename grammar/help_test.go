package grammar_test

import (
	"errors"
	"math"
	"slices"
	"testing"

	"horizon/api"
	"horizon/lexer"
)

// knot is a node with its kids themselves in it, whatever their places in a tree are.
type knot struct {
	node api.Node
	kids []*knot
}

func tie(kind int, name string, num uint64, op int, kids ...*knot) *knot {
	return &knot{node: api.Node{Kind: kind, Name: name, Num: num, Op: op}, kids: kids}
}

// flat is the tree of a knot: each knot stands where so many stand ahead of it.
func flat(k *knot) api.Tree {
	var t api.Tree
	k.lay(&t)
	return t
}

func (k *knot) lay(t *api.Tree) {
	at := len(t.Nodes)
	t.Nodes = append(t.Nodes, k.node)
	var places []int
	for _, kid := range k.kids {
		places = append(places, len(t.Nodes))
		kid.lay(t)
	}
	t.Nodes[at].Kids = places
}

// knots is what a well shaped tree was flattened from.
func knots(t api.Tree, at int) *knot {
	k := &knot{node: t.Nodes[at]}
	k.node.Kids = nil
	for _, kid := range t.Nodes[at].Kids {
		k.kids = append(k.kids, knots(t, kid))
	}
	return k
}

func copied(t api.Tree) api.Tree {
	nodes := slices.Clone(t.Nodes)
	for i := range nodes {
		nodes[i].Kids = slices.Clone(nodes[i].Kids)
	}
	return api.Tree{Nodes: nodes}
}

// equal tells whether trees are the same, places in the text and all.
func equal(a, b api.Tree) bool {
	return slices.EqualFunc(a.Nodes, b.Nodes, func(x, y api.Node) bool {
		return x.Kind == y.Kind && x.Name == y.Name && x.Num == y.Num && x.Op == y.Op &&
			x.Line == y.Line && x.Col == y.Col && slices.Equal(x.Kids, y.Kids)
	})
}

// chance is a row of numbers that look thrown, and are the same at every run.
type chance uint64

func (c *chance) below(n int) int {
	*c = *c*6364136223846793005 + 1442695040888963407
	return int(uint64(*c) >> 33 % uint64(n))
}

func (c *chance) num() uint64 {
	return []uint64{0, 1, 7, 10, 1 << 63, math.MaxUint64}[c.below(6)]
}

func (c *chance) name() string {
	return []string{"a", "x", "If", "a1_B", "seeds", "abcdefghijklmnopqrstuvwxyz_0123"}[c.below(6)]
}

var binaries = []int{
	api.OpOr, api.OpAnd, api.OpEq, api.OpNe, api.OpLt, api.OpLe, api.OpGt, api.OpGe, api.OpBitOr, api.OpBitXor,
	api.OpBitAnd, api.OpShl, api.OpShr, api.OpAdd, api.OpSub, api.OpMul, api.OpDiv, api.OpMod,
}

var unaries = []int{api.OpSub, api.OpNot, api.OpFlip}

// scene throws a scene: deep says how many levels it may have at most.
func (c *chance) scene(deep int) *knot {
	k := tie(api.NScene, "", 0, 0)
	k.node.Line, k.node.Col = 1, 1
	for range c.below(4) {
		k.kids = append(k.kids, c.item(deep))
	}
	return k
}

// some is this many expressions.
func (c *chance) some(count, deep int) []*knot {
	var l []*knot
	for range count {
		l = append(l, c.expr(deep))
	}
	return l
}

func (c *chance) item(deep int) *knot {
	switch c.below(6) {
	case 0:
		return tie(api.NSetting, "", c.num(), []int{api.TSeed, api.TLook, api.TEnd, api.TBudget, api.TFuel}[c.below(5)])
	case 1:
		return tie(api.NConst, c.name(), 0, 0, c.expr(deep))
	case 2:
		k := tie(api.NKinds, "", 0, 0)
		for range 1 + c.below(3) {
			k.kids = append(k.kids, tie(api.NKind, c.name(), 0, 0))
		}
		return k
	case 3:
		k := tie(api.NType, c.name(), 0, 0)
		for range c.below(4) {
			k.kids = append(k.kids, c.member(deep))
		}
		return k
	case 4:
		has := c.below(2)
		k := tie(api.NPlace, c.name(), 0, has, c.some(has, deep)...)
		k.kids = append(k.kids, tie(api.NName, c.name(), 0, 0))
		for range c.below(3) {
			has := c.below(2)
			k.kids = append(k.kids, tie(api.NGive, c.name(), 0, has, c.some(has+1, deep)...))
		}
		return k
	}
	has := c.below(2)
	k := tie(api.NStart, c.name(), c.num(), has, c.expr(deep), tie(api.NName, c.name(), 0, 0))
	k.kids = append(k.kids, c.some(has, deep)...)
	return k
}

func (c *chance) member(deep int) *knot {
	if c.below(2) == 0 {
		has := c.below(4)
		return tie(api.NVar, c.name(), 0, has, c.some([]int{0, 1, 1, 2}[has], deep)...)
	}
	return tie(api.NOn, c.name(), 0, 0, tie(api.NName, c.name(), 0, 0), c.block(deep))
}

func (c *chance) block(deep int) *knot {
	k := tie(api.NBlock, "", 0, 0)
	for range c.below(4) {
		k.kids = append(k.kids, c.statement(deep))
	}
	return k
}

func (c *chance) statement(deep int) *knot {
	switch what := c.below(10); {
	case what == 0:
		return tie(api.NLet, c.name(), 0, 0, c.expr(deep))
	case what == 1:
		return tie(api.NSet, c.name(), 0, 0, c.expr(deep))
	case what == 2:
		return tie(api.NSetAt, c.name(), 0, 0, c.some(2, deep)...)
	case what == 3:
		return tie(api.NSend, c.name(), 0, 0, c.some(3, deep)...)
	case what == 4:
		return tie(api.NFail, "", 0, 0, c.expr(deep))
	case what == 5 && deep > 0:
		return tie(api.NWhile, "", 0, 0, c.expr(deep-1), c.block(deep-1))
	case what >= 6 && deep > 0:
		return c.branch(deep - 1)
	}
	return tie([]int{api.NBreak, api.NContinue, api.NReturn}[c.below(3)], "", 0, 0)
}

func (c *chance) branch(deep int) *knot {
	k := tie(api.NIf, "", 0, 0, c.expr(deep), c.block(deep))
	switch c.below(3) {
	case 0:
		k.kids = append(k.kids, c.block(deep))
	case 1:
		k.kids = append(k.kids, c.branch(max(0, deep-1)))
	}
	return k
}

func (c *chance) expr(deep int) *knot {
	if deep == 0 {
		return c.leaf()
	}
	switch c.below(9) {
	case 0, 1, 2:
		return tie(api.NBinary, "", 0, binaries[c.below(len(binaries))], c.some(2, deep-1)...)
	case 3, 4:
		return tie(api.NUnary, "", 0, unaries[c.below(3)], c.expr(deep-1))
	case 5:
		return tie(api.NIndex, c.name(), 0, 0, c.expr(deep-1))
	case 6:
		return tie([]int{api.NRoll, api.NWait}[c.below(2)], "", 0, 0, c.expr(deep-1))
	case 7:
		return tie([]int{api.NLeast, api.NMost}[c.below(2)], "", 0, 0, c.some(2, deep-1)...)
	}
	return c.leaf()
}

func (c *chance) leaf() *knot {
	switch c.below(5) {
	case 0, 1:
		return tie(api.NNumber, "", c.num(), 0)
	case 2, 3:
		return tie(api.NName, c.name(), 0, 0)
	}
	return tie([]int{api.NNow, api.NMe, api.NFrom}[c.below(3)], "", 0, 0)
}

// at is the place of an error, and its number; all zero of no error, -1 for one of another form.
type at struct {
	line, col int
	code      api.Errno
}

func placed(err error) at {
	if err == nil {
		return at{}
	}
	var p *api.PosError
	if !errors.As(err, &p) || error(p) != err {
		return at{code: -1}
	}
	code, ok := p.Err.(api.Errno)
	if !ok {
		return at{code: -1}
	}
	return at{p.Line, p.Col, code}
}

func scanned(t testing.TB, src string) []api.Token {
	t.Helper()
	l, err := lexer.Scan(src)
	if err != nil {
		t.Fatalf("Scan(%q): %v", src, err)
	}
	return l
}

func few(s string) string {
	if len(s) > 300 {
		return s[:300] + ".."
	}
	return s
}
