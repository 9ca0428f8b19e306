package scope_test

import (
	"math"
	"math/big"
	"slices"
	"strconv"
	"strings"
	"testing"

	"horizon/api"
	"horizon/grammar"
	"horizon/scope"
)

// checkFold holds Fold against a slow reading of 5.1.
func checkFold(t *testing.T, tree api.Tree, node int, consts []api.Const) {
	t.Helper()
	want := open(tree).fold(node, func(name string) (worth, bool) {
		i := slices.IndexFunc(consts, func(c api.Const) bool { return c.Name == name })
		if i < 0 {
			return worth{}, false
		}
		return worth{value: big.NewInt(consts[i].Value)}, true
	})
	src, _ := grammar.Print(tree)
	value, err := scope.Fold(tree, node, consts)
	if want.code == api.OK {
		if err != nil || value != want.value.Int64() {
			t.Fatalf("%s node %d: %d, %v, not %v", few(src), node, value, err, want.value)
		}
		return
	}
	n := tree.Nodes[want.at]
	if got := placed(t, err); got != (at{n.Line, n.Col, want.code}) || value != 0 {
		t.Fatalf("%s node %d: %d, %v, not %v", few(src), node, value, got, want)
	}
}

// edges are numbers at which computing may go wrong.
func edges() []int64 {
	return []int64{
		math.MinInt64, math.MinInt64 + 1, -1 << 32, -65, -64, -63, -7, -2, -1, 0, 1, 2, 3, 7, 31, 32, 62, 63, 64, 65, 127, 128, 255, 256,
		1<<32 - 1, 1 << 32, 1<<32 + 1, 1 << 62, math.MaxInt64 - 1, math.MaxInt64,
	}
}

// 5.1: every operator, at all pairs of edges.
func TestFoldOperators(t *testing.T) {
	for _, form := range []string{
		"a || b", "a && b", "a == b", "a != b", "a < b", "a <= b", "a > b", "a >= b", "a | b", "a ^ b", "a & b", "a << b", "a >> b",
		"a + b", "a - b", "a * b", "a / b", "a % b", "min(a, b)", "max(a, b)", "-a", "!a", "~a", "a",
	} {
		tree := parsed(t, "const X = "+form)
		for _, a := range edges() {
			for _, b := range edges() {
				checkFold(t, tree, 2, []api.Const{{Name: "a", Value: a}, {Name: "b", Value: b}})
			}
		}
	}
}

// 5.1: values, written out.
func TestFoldValues(t *testing.T) {
	for src, want := range map[string]int64{
		"9223372036854775807":                 math.MaxInt64,
		"9223372036854775807 + 1":             math.MinInt64,
		"-9223372036854775807 - 1":            math.MinInt64,
		"-(-9223372036854775807 - 1)":         math.MinInt64,
		"(-9223372036854775807 - 1) / -1":     math.MinInt64,
		"(-9223372036854775807 - 1) % -1":     0,
		"-7 / 2":                              -3,
		"-7 % 2":                              -1,
		"7 % -2":                              1,
		"1 << 63":                             math.MinInt64,
		"1 << 64":                             0,
		"-1 >> 9223372036854775807":           -1,
		"5 >> 9223372036854775807":            0,
		"~0":                                  -1,
		"!0":                                  1,
		"!-3":                                 0,
		"5 && -3":                             1,
		"5 && 0":                              0,
		"0 || 7":                              1,
		"0 || 0":                              0,
		"0 && 1 / 0":                          0,
		"2 || 1 << -1":                        1,
		"(0 && 1 / 0) || 3":                   1,
		"min(3, -4)":                          -4,
		"max(3, -4)":                          3,
		"10 - 4 - 3":                          3,
		"2 + 3 * 4":                           14,
		"1 < 2":                               1,
		"6 & 3 | 8 ^ 9":                       3,
		"4611686018427387904 * 2":             math.MinInt64,
		"9223372036854775807 * 9223372036854": -9223372036854,
	} {
		if got, err := scope.Fold(parsed(t, "const X = "+src), 2, nil); got != want || err != nil {
			t.Errorf("%s: %d, %v, not %d", src, got, err, want)
		}
	}
}

// 5.1: what no constant expression may have is found ahead of computing, the first node of all, and where nothing would be computed, too.
func TestFoldFirstFaults(t *testing.T) {
	for src, want := range map[string]at{
		"9223372036854775808":           {1, 11, api.ErrRange},
		"18446744073709551615":          {1, 11, api.ErrRange},
		"-9223372036854775808":          {1, 12, api.ErrRange},
		"z":                             {1, 11, api.ErrUnknown},
		"X":                             {1, 11, api.ErrUnknown},
		"a[0]":                          {1, 11, api.ErrFold},
		"z[9223372036854775808]":        {1, 11, api.ErrFold},
		"now":                           {1, 11, api.ErrFold},
		"me":                            {1, 11, api.ErrFold},
		"from":                          {1, 11, api.ErrFold},
		"roll(z)":                       {1, 11, api.ErrFold},
		"wait(z)":                       {1, 11, api.ErrFold},
		"0 && z":                        {1, 16, api.ErrUnknown},
		"1 || now":                      {1, 16, api.ErrFold},
		"0 && 9223372036854775808":      {1, 16, api.ErrRange},
		"1 / 0 + z":                     {1, 19, api.ErrUnknown},
		"1 / 0 + me":                    {1, 19, api.ErrFold},
		"1 << -1 + 9223372036854775808": {1, 21, api.ErrRange},
		"z + now":                       {1, 11, api.ErrUnknown},
		"now + z":                       {1, 11, api.ErrFold},
		"z + 9223372036854775808":       {1, 11, api.ErrUnknown},
		"9223372036854775808 + z":       {1, 11, api.ErrRange},
		"now + 9223372036854775808":     {1, 11, api.ErrFold},
		"min(a, z)":                     {1, 18, api.ErrUnknown},
		"max(z, now)":                   {1, 15, api.ErrUnknown},
		"a + b * (1 - -!~roll(9223372036854775808))":    {1, 27, api.ErrFold},
		"a\n + b\n  * (1 - -!~9223372036854775808) + z": {3, 13, api.ErrRange},
	} {
		v, err := scope.Fold(parsed(t, "const X = "+src), 2, []api.Const{{Name: "a", Value: 0}, {Name: "b", Value: 0}})
		if got := placed(t, err); got != want || v != 0 {
			t.Errorf("%s: %d, %v, not %v", src, v, got, want)
		}
	}
}

// 5.1: what cannot be computed is told at its operator; the first that is met from left to right.
func TestFoldSecondFaults(t *testing.T) {
	for src, col := range map[string]int{
		"1 / 0":                     13,
		"1 % 0":                     13,
		"1 << -1":                   13,
		"1 >> -1":                   13,
		"0 << -9223372036854775807": 13,
		"1 / (0 && 1)":              13,
		"1 / 0 + 1 % 0":             13,
		"1 + 1 % 0 / (1 / 0)":       17,
		"1 % (2 / 0)":               18,
		"(1 / 0) % (2 / 0)":         14,
		"min(1 / 0, 1 % 0)":         17,
		"max(1, 1 % 0)":             20,
		"min(0, 1 / 0)":             20,
		"-(1 / 0)":                  15,
		"1 && 1 / 0":                18,
		"0 || 1 / 0":                18,
		"1 / 0 && 0":                13,
		"1 / 0 || 1":                13,
		"0 && 1 / 0 || 1 % 0":       27,
		"1 < 1 / 0":                 17,
		"1 / 0 == 1 << -1":          13,
		"1 * (1 << -1)":             18,
		"1 / (0 - 1 + 1)":           13,
	} {
		v, err := scope.Fold(parsed(t, "const X = "+src), 2, nil)
		if got := placed(t, err); got != (at{1, col, api.ErrFold}) || v != 0 {
			t.Errorf("%s: %d, %v, not at %d", src, v, got, col)
		}
	}
}

// 5.1: any node of a tree, whatever lies around it; what is no expression is refused.
func TestFoldNodes(t *testing.T) {
	tree := parsed(t, "look 5 const A = B * (2 + now) kind k type T { var r[B] = -1 on k(d) { let a = B while d { r[0] = min(B, 2) break } } } place p[2] : T (r = B / 0) start k(B) to p[1] at 0")
	for _, consts := range [][]api.Const{nil, {{Name: "B", Value: 3}}, {{Name: "T", Value: 4}, {Name: "B", Value: 5}, {Name: "d"}, {Name: "p", Value: 6}}} {
		for node, n := range tree.Nodes {
			if n.Kind >= api.NNumber {
				checkFold(t, tree, node, consts)
				continue
			}
			if v, err := scope.Fold(tree, node, consts); v != 0 || !isPlain(err, api.ErrTree) {
				t.Errorf("node %d of kind %d: %d, %v", node, n.Kind, v, err)
			}
		}
		for _, node := range []int{-1, math.MinInt64, len(tree.Nodes), len(tree.Nodes) + 1, math.MaxInt64} {
			if v, err := scope.Fold(tree, node, consts); v != 0 || !isPlain(err, api.ErrTree) {
				t.Errorf("node %d: %d, %v", node, v, err)
			}
		}
	}
}

// 5.1: what is no tree is refused with grammar's own word, whatever node is asked for.
func TestFoldNoTree(t *testing.T) {
	for code, tree := range badTrees(t) {
		for _, node := range []int{-1, 0, 2, 3, len(tree.Nodes)} {
			if v, err := scope.Fold(tree, node, nil); v != 0 || !isPlain(err, code) {
				t.Errorf("node %d: %d, %v, not %d", node, v, err, code)
			}
		}
	}
}

// 5.1: of several consts of one name the first counts; their names may be any strings; none of it is changed.
func TestFoldConsts(t *testing.T) {
	consts := []api.Const{{Name: "", Value: 1}, {Name: "a b", Value: 2}, {Name: "if", Value: 3}, {Name: "C", Value: 7}, {Name: "C", Value: 8}, {Name: "D", Value: 9}, {Name: "C", Value: 0}}
	before := slices.Clone(consts)
	tree := parsed(t, "const X = C * 10 + D")
	for range 20 {
		if v, err := scope.Fold(tree, 2, consts); v != 79 || err != nil {
			t.Fatalf("%d, %v", v, err)
		}
	}
	if !slices.Equal(consts, before) {
		t.Errorf("changed: %v", consts)
	}
	consts[3].Value = 1
	if v, _ := scope.Fold(tree, 2, consts); v != 19 {
		t.Errorf("what was handed in ahead is still there: %d", v)
	}
	_, err := scope.Fold(tree, 2, consts[:3])
	if got := placed(t, err); got != (at{1, 11, api.ErrUnknown}) {
		t.Errorf("%v", got)
	}
}

// 5.1: places in the text are told as they stand in the nodes, and nothing is asked of them.
func TestFoldPlaces(t *testing.T) {
	tree := parsed(t, "const X = z + z")
	tree.Nodes[3].Line, tree.Nodes[3].Col = -4, math.MaxInt64
	tree.Nodes[4].Line, tree.Nodes[4].Col = 0, 0
	for node, want := range map[int]at{2: {-4, math.MaxInt64, api.ErrUnknown}, 4: {0, 0, api.ErrUnknown}} {
		_, err := scope.Fold(tree, node, nil)
		if got := placed(t, err); got != want {
			t.Errorf("node %d: %v, not %v", node, got, want)
		}
	}
}

// 5.1: as long as an expression may be.
func TestFoldLong(t *testing.T) {
	const terms = (api.MaxTokens - 3 + 1) / 2
	long := parsed(t, "const X = 1"+strings.Repeat(" + 1", terms-1))
	if v, err := scope.Fold(long, 2, nil); v != terms || err != nil {
		t.Errorf("%d, %v", v, err)
	}
	faulty := parsed(t, "const X = 1"+strings.Repeat("/ 1", terms-2)+"/ 0")
	_, err := scope.Fold(faulty, 2, nil)
	if got := placed(t, err); got.code != api.ErrFold || got.col != len("const X = 1")+3*(terms-2)+1 {
		t.Errorf("%v", got)
	}
	deep := parsed(t, "const X = "+strings.Repeat("~", api.MaxDeep)+"5")
	if v, err := scope.Fold(deep, 2, nil); v != 5 || err != nil {
		t.Errorf("%d, %v", v, err)
	}
	var consts []api.Const
	for i := range 100000 {
		consts = append(consts, api.Const{Name: "n" + strconv.Itoa(i), Value: 1})
	}
	names := parsed(t, "const X = n0"+strings.Repeat("+ n99999", 8000))
	if v, err := scope.Fold(names, 2, consts); v != 8001 || err != nil {
		t.Errorf("%d, %v", v, err)
	}
}

// expression throws an expression of constants: deep says how many levels it may have at most.
func (c *chance) expression(deep int, atoms []string) string {
	if deep == 0 || c.below(4) == 0 {
		return atoms[c.below(len(atoms))]
	}
	deep--
	switch c.below(10) {
	case 0, 1:
		return []string{"-", "!", "~"}[c.below(3)] + "(" + c.expression(deep, atoms) + ")"
	case 2:
		return []string{"min(", "max("}[c.below(2)] + c.expression(deep, atoms) + "," + c.expression(deep, atoms) + ")"
	case 3:
		return "(" + c.expression(deep, atoms) + []string{"&&", "||"}[c.below(2)] + c.expression(deep, atoms) + ")"
	}
	ops := []string{"==", "!=", "<", "<=", ">", ">=", "|", "^", "&", "<<", ">>", "+", "-", "*", "/", "%", "/", "%", "<<", ">>"}
	return "(" + c.expression(deep, atoms) + ops[c.below(len(ops))] + c.expression(deep, atoms) + ")"
}

// 5.1: expressions of all kinds, thrown, each with all that lies in it.
func TestFoldThrown(t *testing.T) {
	atoms := []string{"0", "1", "2", "3", "a", "a", "b", "b", "63", "64", "9223372036854775807"}
	rare := append([]string{"9223372036854775808", "z", "now", "me", "from", "roll(1)", "wait(z)", "a[1]"}, slices.Repeat(atoms, 6)...)
	consts := []api.Const{{Name: "a", Value: -1}, {Name: "b", Value: 5}, {Name: "a", Value: 9}}
	c := chance(51)
	for range 20000 {
		from := atoms
		if c.below(3) == 0 {
			from = rare
		}
		tree := parsed(t, "const X = "+c.expression(4, from))
		checkFold(t, tree, 2, consts)
		checkFold(t, tree, 2+c.below(len(tree.Nodes)-2), consts)
	}
}
