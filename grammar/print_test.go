package grammar_test

import (
	"math"
	"slices"
	"strings"
	"testing"

	"horizon/api"
	"horizon/grammar"
	"horizon/lexer"
)

// 4.5: texts and their prints, those of the examples among them.
func TestPrintExamples(t *testing.T) {
	for src, want := range map[string]string{
		"":                      "",
		" # nothing":            "",
		"const A = 1 - 2 - 3":   "const A = 1 - 2 - 3\n",
		"const A = 1 - (2 - 3)": "const A = 1 - (2 - 3)\n",
		"const A = (1 - 2) - 3": "const A = 1 - 2 - 3\n",
		"const A = (1 < 2) < 3": "const A = (1 < 2) < 3\n",
		"const A = --!x":        "const A = --!x\n",
		"const A = -(1 + 2)":    "const A = -(1 + 2)\n",
		"const A = -(1)":        "const A = -1\n",
		"const A = " + strings.Repeat("(", 48) + "1" + strings.Repeat(")", 48): "const A = 1\n",
		"type T{on k(x){if x{a=1}else if y{b=2}else{}}}":                       "type T {\n  on k(x) {\n    if x {\n      a = 1\n    } else if y {\n      b = 2\n    } else {\n    }\n  }\n}\n",
		"place s [ 2 ] : T ( a=1 , b [ 0 ] = -2 ) start k ( 7 ) to s at 5":     "place s[2] : T (a = 1, b[0] = -2)\nstart k(7) to s at 5\n",
		"type T{on k(x){x = y z[1] = 3}}":                                      "type T {\n  on k(x) {\n    x = y\n    z[1] = 3\n  }\n}\n",
		"seed 007 # seven\nend 18446744073709551615":                           "seed 7\nend 18446744073709551615\n",
		"type T{}type U{var a var b[1]var c=2 var d[3]=4}":                     "type T {\n}\ntype U {\n  var a\n  var b[1]\n  var c = 2\n  var d[3] = 4\n}\n",
		"start k(1)to p[2]at 3 kind a,b,c":                                     "start k(1) to p[2] at 3\nkind a, b, c\n",
		"type T{on k(x){while 1{break continue return}let a=b[c]}}":            "type T {\n  on k(x) {\n    while 1 {\n      break\n      continue\n      return\n    }\n    let a = b[c]\n  }\n}\n",
		"type T{on k(x){send k(now)to me after from fail roll(wait(1))}}":      "type T {\n  on k(x) {\n    send k(now) to me after from\n    fail roll(wait(1))\n  }\n}\n",
		"type T{on k(x){if 1{}else{if 2{}}if 3{}}}":                            "type T {\n  on k(x) {\n    if 1 {\n    } else {\n      if 2 {\n      }\n    }\n    if 3 {\n    }\n  }\n}\n",
		"const A=min(max(1,2),-x[3])":                                          "const A = min(max(1, 2), -x[3])\n",
		"const A=(-1)*(-(2))%(~(!3))":                                          "const A = -1 * -2 % ~!3\n",
	} {
		tree, err := grammar.Parse(src)
		if err != nil {
			t.Fatalf("Parse(%q): %v", src, err)
		}
		if got, code := grammar.Print(tree); got != want || code != api.OK {
			t.Errorf("Print of %q = %q, %d, not %q", src, got, code, want)
		}
	}
}

// 4.5: brackets around each kind of operand, on each side of each operator.
func TestPrintBrackets(t *testing.T) {
	leaf := func() *knot { return tie(api.NName, "x", 0, 0) }
	operands := []*knot{leaf(), tie(api.NNumber, "", 5, 0), tie(api.NIndex, "a", 0, 0, leaf()), tie(api.NRoll, "", 0, 0, leaf()), tie(api.NMost, "", 0, 0, leaf(), leaf())}
	for _, op := range binaries {
		operands = append(operands, tie(api.NBinary, "", 0, op, leaf(), leaf()))
	}
	for _, op := range unaries {
		operands = append(operands, tie(api.NUnary, "", 0, op, leaf()))
	}
	check := func(k *knot) {
		t.Helper()
		tree := flat(sceneOf(tie(api.NConst, "A", 0, 0, k)))
		want := "const A = " + k.text() + "\n"
		if got, code := grammar.Print(tree); got != want || code != api.OK {
			t.Errorf("Print = %q, %d, not %q", got, code, want)
		}
		again, err := grammar.Parse(want)
		if err != nil || !grammar.Same(again, tree) {
			t.Errorf("%q is not read as what it was printed from: %v", want, err)
		}
	}
	for _, kid := range operands {
		for _, op := range binaries {
			check(tie(api.NBinary, "", 0, op, kid, leaf()))
			check(tie(api.NBinary, "", 0, op, leaf(), kid))
		}
		for _, op := range unaries {
			check(tie(api.NUnary, "", 0, op, kid))
		}
		check(tie(api.NIndex, "a", 0, 0, kid))
		check(tie(api.NWait, "", 0, 0, kid))
		check(tie(api.NLeast, "", 0, 0, kid, kid))
	}
}

// 4.5 and 4.6: thrown trees are printed in the one layout; the print is read as a tree that is the same, and prints as itself.
func TestPrintThrown(t *testing.T) {
	for seed := range 4000 {
		c := chance(seed)
		root := c.scene(seed % 7)
		tree := flat(root)
		want := root.layout()
		got, code := grammar.Print(tree)
		if got != want || code != api.OK {
			t.Fatalf("seed %d: %q, %d, not %q", seed, got, code, want)
		}
		again, err := grammar.Parse(got)
		if err != nil || !grammar.Same(tree, again) {
			t.Fatalf("seed %d: the print %q is another tree: %v", seed, got, err)
		}
		if twice, _ := grammar.Print(again); twice != got {
			t.Fatalf("seed %d: %q, printed again: %q", seed, got, twice)
		}
		for _, line := range strings.SplitAfter(got, "\n") {
			if line == "\n" || strings.HasSuffix(line, " \n") {
				t.Fatalf("seed %d: an empty line, or one that ends with a space: %q", seed, got)
			}
		}
	}
}

// 4.6: what was written with needless brackets, blanks, comments and zeros prints as what was written without.
func TestPrintLosesTheRest(t *testing.T) {
	for seed := range 500 {
		c := chance(seed)
		root := c.scene(seed % 5)
		src := ""
		for _, tok := range spelled(root, func() int { return max(0, c.below(6)-4) }, nil) {
			src += []string{" ", "\n", "\t\r\n", " # ( [ {\n", "\n\n  "}[c.below(5)]
			if tok.Kind == api.TNumber {
				src += strings.Repeat("0", c.below(3))
			}
			src += tok.Text
		}
		tree, err := grammar.Parse(src)
		if err != nil {
			t.Fatalf("Parse(%q): %v", src, err)
		}
		if got, code := grammar.Print(tree); got != root.layout() || code != api.OK {
			t.Fatalf("Print of %q = %q, %d", src, got, code)
		}
	}
}

// 4.5: MaxText bytes are printed, one more is ErrLong with no text; such a tree is valid all the same.
func TestPrintLong(t *testing.T) {
	for extra, want := range map[int]api.Errno{-1: api.OK, 0: api.OK, 1: api.ErrLong, 2: api.ErrLong, 5000: api.ErrLong} {
		root := sceneOf()
		left := api.MaxText + extra
		for left > 0 {
			name := 31
			if left < 2*43 {
				name = max(1, min(31, left-12-14))
			}
			if left < 43 {
				name = left - 12
			}
			root.kids = append(root.kids, tie(api.NConst, strings.Repeat("n", name), 0, 0, tie(api.NMe, "", 0, 0)))
			left -= len("const  = me\n") + name
		}
		text := root.layout()
		if len(text) != api.MaxText+extra {
			t.Fatalf("%d bytes, not %d", len(text), api.MaxText+extra)
		}
		tree := flat(root)
		checkValid(t, tree, api.OK)
		got, code := grammar.Print(tree)
		if code != want || want == api.OK && got != text || want != api.OK && got != "" {
			t.Errorf("%d bytes: %d, %q", len(text), code, few(got))
		}
	}
}

// 4.5: a print that is long by its indents alone.
func TestPrintLongIndents(t *testing.T) {
	src := "type T{on k(x){" + strings.Repeat("if x{", 40) + strings.Repeat("a=1 ", 1200) + strings.Repeat("}", 42)
	tree, err := grammar.Parse(src)
	if err != nil || grammar.Valid(tree) != api.OK {
		t.Fatal(err)
	}
	if s, code := grammar.Print(tree); s != "" || code != api.ErrLong {
		t.Errorf("Print: %q, %d", few(s), code)
	}
	tree, _ = grammar.Parse(strings.Replace(src, "a=1 ", "", 700))
	if s, code := grammar.Print(tree); s != knots(tree, 0).layout() || code != api.OK {
		t.Errorf("Print: %q, %d", few(s), code)
	}
}

// 4.5: the error of Valid, and no text.
func TestPrintInvalid(t *testing.T) {
	for _, tree := range []api.Tree{
		{}, {Nodes: make([]api.Node, api.MaxNodes+1)}, {Nodes: []api.Node{{Kind: api.NScene, Line: 1, Col: 1, Kids: []int{1}}}},
		flat(sceneOf(tie(api.NConst, "A", 0, 0, around(49, api.NRoll, 0)))), flat(filled(api.MaxTokens + 1)),
	} {
		want := grammar.Valid(tree)
		if s, code := grammar.Print(tree); s != "" || code != want || want == api.OK {
			t.Errorf("Print: %q, %d, not %d", few(s), code, want)
		}
	}
}

// 4.2: Scan's error as it stands, ahead of the grammar's; else Build of the tokens.
func TestParse(t *testing.T) {
	deep := "const A = " + strings.Repeat("(", 48)
	for src, want := range map[string]at{
		"const A =":                       {1, 10, api.ErrEnds},
		"const if = 1":                    {1, 7, api.ErrWant},
		"const":                           {1, 6, api.ErrEnds},
		"const # A\n\n":                   {1, 6, api.ErrEnds},
		"look x":                          {1, 6, api.ErrWant},
		"type T { let a = 1 }":            {1, 10, api.ErrWant},
		"look 5 }":                        {1, 8, api.ErrWant},
		"const A = 1 < 2 < 3":             {1, 17, api.ErrWant},
		"const A = (1 < 2) < 3":           {},
		"\nconst A = 1 &&\n 2 == 3 != 4":  {3, 9, api.ErrWant},
		deep + "(1":                       {1, 59, api.ErrDeep},
		deep[:57] + "--1":                 {1, 59, api.ErrDeep},
		"} $":                             {1, 3, api.ErrByte},
		"} 1_0":                           {1, 3, api.ErrNumber},
		"} " + strings.Repeat("a", 32):    {1, 3, api.ErrName},
		strings.Repeat("+", 16385):        {1, 16385, api.ErrTokens},
		strings.Repeat("+", 16384):        {1, 1, api.ErrWant},
		strings.Repeat("+", 65537):        {1, 1, api.ErrLong},
		"look 5 end 9 const A = (1 + ":    {1, 28, api.ErrEnds},
		strings.Repeat(" ", api.MaxText):  {},
		"look 18446744073709551616 look":  {1, 6, api.ErrNumber},
		"type T { on k(x) { x = y [1] = ": {1, 30, api.ErrWant},
	} {
		tree, err := grammar.Parse(src)
		if got := placed(err); got != want || err != nil && len(tree.Nodes) != 0 {
			t.Errorf("Parse(%q): %v, not %v", few(src), got, want)
		}
		list, wrong := lexer.Scan(src)
		if wrong != nil && placed(wrong) != placed(err) {
			t.Errorf("Parse(%q): %v, but Scan: %v", few(src), err, wrong)
		}
		if built, _ := grammar.Build(list); wrong == nil && !equal(built, tree) {
			t.Errorf("Parse(%q) is not Build of its tokens", few(src))
		}
	}
	for _, src := range scenes {
		tree, err := grammar.Parse(src)
		built, _ := grammar.Build(scanned(t, src))
		if err != nil || !equal(tree, built) {
			t.Errorf("Parse(%q): %v", src, err)
		}
	}
}

// 4.4: each field that counts makes a difference, places make none; for any trees.
func TestSame(t *testing.T) {
	tree, _ := grammar.Parse("look 5 const A = -1 + x[2]")
	for i := range tree.Nodes {
		for what, change := range []func(n *api.Node){
			func(n *api.Node) { n.Line = math.MinInt }, func(n *api.Node) { n.Col = 99 }, func(n *api.Node) { n.Line, n.Col = 0, -1 },
			func(n *api.Node) { n.Kids = append([]int{}, n.Kids...) },
			func(n *api.Node) { n.Kind++ }, func(n *api.Node) { n.Name += "x" }, func(n *api.Node) { n.Num++ }, func(n *api.Node) { n.Op = -n.Op - 1 },
			func(n *api.Node) { n.Kids = append(slices.Clone(n.Kids), 1) }, func(n *api.Node) { n.Kids = append([]int{7}, n.Kids...) },
		} {
			other := copied(tree)
			change(&other.Nodes[i])
			if got, want := grammar.Same(tree, other), what < 4; got != want || grammar.Same(other, tree) != want {
				t.Errorf("node %d, change %d: %v", i, what, got)
			}
			if !grammar.Same(other, copied(other)) {
				t.Errorf("node %d, change %d: not the same as itself", i, what)
			}
		}
		if n := tree.Nodes[i].Kids; len(n) > 0 {
			other := copied(tree)
			other.Nodes[i].Kids[len(n)-1]++
			if grammar.Same(tree, other) {
				t.Errorf("node %d: another last kid", i)
			}
		}
	}
	shorter := api.Tree{Nodes: tree.Nodes[:len(tree.Nodes)-1]}
	if grammar.Same(tree, shorter) || grammar.Same(shorter, tree) || !grammar.Same(api.Tree{}, api.Tree{Nodes: []api.Node{}}) || grammar.Same(api.Tree{}, tree) {
		t.Error("trees with other numbers of nodes")
	}
	big := api.Tree{Nodes: make([]api.Node, 2*api.MaxNodes)}
	if !grammar.Same(big, copied(big)) {
		t.Error("too many nodes are the same too")
	}
}

// seen is what Walk shows of a tree.
func seen(t api.Tree, node int, into func(node int) bool) (list [][2]int, code api.Errno) {
	code = grammar.Walk(t, node, func(n, deep int) bool {
		list = append(list, [2]int{n, deep})
		return into(n)
	})
	return list, code
}

// descent is the same by the chapter's words.
func descent(t api.Tree, node, deep int, into func(node int) bool) [][2]int {
	list := [][2]int{{node, deep}}
	if into(node) {
		for _, kid := range t.Nodes[node].Kids {
			list = append(list, descent(t, kid, deep+1, into)...)
		}
	}
	return list
}

// 4.7: from each node of many trees, into all, none and some of the nodes.
func TestWalk(t *testing.T) {
	tree, _ := grammar.Parse("const A = 1 + 2 * 3")
	list, code := seen(tree, 2, func(n int) bool { return n != 4 })
	if code != api.OK || !slices.Equal(list, [][2]int{{2, 0}, {3, 1}, {4, 1}}) {
		t.Errorf("the example: %v, %d", list, code)
	}
	trees := whole(t)
	for seed := range 300 {
		c := chance(seed)
		trees = append(trees, flat(c.scene(4)))
	}
	for _, tree := range trees {
		for node := range tree.Nodes {
			for _, into := range []func(n int) bool{
				func(n int) bool { return true }, func(n int) bool { return false },
				func(n int) bool { return n%2 == 0 }, func(n int) bool { return n%3 != 2 || n == node },
			} {
				list, code := seen(tree, node, into)
				if want := descent(tree, node, 0, into); code != api.OK || !slices.Equal(list, want) {
					t.Fatalf("Walk of %+v from %d: %v, %d, not %v", tree, node, list, code, want)
				}
			}
			if grammar.Walk(tree, node, nil) != api.OK {
				t.Fatalf("Walk of %+v from %d by nobody", tree, node)
			}
		}
	}
}

// 4.7: the error of Valid, then ErrTree for a node that is not there; nothing is called.
func TestWalkWrong(t *testing.T) {
	tree, _ := grammar.Parse("const A = 1 + 2 * 3")
	for _, see := range []func(int, int) bool{nil, func(int, int) bool { t.Error("called"); return true }} {
		for _, node := range []int{math.MinInt, -1, 7, 8, math.MaxInt} {
			if code := grammar.Walk(tree, node, see); code != api.ErrTree {
				t.Errorf("from %d: %d", node, code)
			}
		}
		for _, wrong := range []api.Tree{{}, {Nodes: make([]api.Node, api.MaxNodes+1)}, flat(sceneOf(tie(api.NConst, "A", 0, 0, around(49, api.NRoll, 0)))), flat(filled(api.MaxTokens + 1))} {
			for _, node := range []int{-1, 0, 1} {
				if code := grammar.Walk(wrong, node, see); code != grammar.Valid(wrong) {
					t.Errorf("from %d: %d", node, code)
				}
			}
		}
	}
}

// 0.1: who changes the tree as it is gone through changes nothing of the way.
func TestWalkChanging(t *testing.T) {
	for _, tree := range whole(t) {
		want := descent(tree, 0, 0, func(int) bool { return true })
		list, code := seen(tree, 0, func(n int) bool {
			for i := range tree.Nodes {
				for j := range tree.Nodes[i].Kids {
					tree.Nodes[i].Kids[j] = -1
				}
				tree.Nodes[i].Kids = append(tree.Nodes[i].Kids, 1<<40)
			}
			return true
		})
		if code != api.OK || !slices.Equal(list, want) {
			t.Errorf("%v, %d, not %v", list, code, want)
		}
	}
}
