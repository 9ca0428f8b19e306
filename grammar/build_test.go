package grammar_test

import (
	"errors"
	"math"
	"slices"
	"strings"
	"testing"

	"horizon/api"
	"horizon/grammar"
)

// checkBuild holds Build's error against what it should be, and tells whether there is a tree.
func checkBuild(t *testing.T, l []api.Token, want at) {
	t.Helper()
	tree, err := grammar.Build(l)
	if got := placed(err); got != want {
		t.Fatalf("Build(%s): %v, not %v", shown(l), got, want)
	}
	if err != nil && len(tree.Nodes) != 0 {
		t.Fatalf("Build(%s): nodes beside an error", shown(l))
	}
	if err == nil && (len(tree.Nodes) == 0 || grammar.Valid(tree) != api.OK) {
		t.Fatalf("Build(%s): no valid tree", shown(l))
	}
}

func shown(l []api.Token) string {
	var s []string
	for _, tok := range l {
		s = append(s, tok.Text)
	}
	return few(strings.Join(s, " "))
}

// 4.1: the examples' nodes, one by one.
func TestBuildExamples(t *testing.T) {
	for src, want := range map[string][]api.Node{
		"": {{Kind: api.NScene, Line: 1, Col: 1}},
		"look 5": {
			{Kind: api.NScene, Kids: []int{1}, Line: 1, Col: 1},
			{Kind: api.NSetting, Num: 5, Op: api.TLook, Line: 1, Col: 1},
		},
		"const A = 1 + 2 * 3": {
			{Kind: api.NScene, Kids: []int{1}, Line: 1, Col: 1},
			{Kind: api.NConst, Name: "A", Kids: []int{2}, Line: 1, Col: 1},
			{Kind: api.NBinary, Op: api.OpAdd, Kids: []int{3, 4}, Line: 1, Col: 13},
			{Kind: api.NNumber, Num: 1, Line: 1, Col: 11},
			{Kind: api.NBinary, Op: api.OpMul, Kids: []int{5, 6}, Line: 1, Col: 17},
			{Kind: api.NNumber, Num: 2, Line: 1, Col: 15},
			{Kind: api.NNumber, Num: 3, Line: 1, Col: 19},
		},
		"type T{on k(x){x = y z[1] = 3}}": {
			{Kind: api.NScene, Kids: []int{1}, Line: 1, Col: 1},
			{Kind: api.NType, Name: "T", Kids: []int{2}, Line: 1, Col: 1},
			{Kind: api.NOn, Name: "k", Kids: []int{3, 4}, Line: 1, Col: 8},
			{Kind: api.NName, Name: "x", Line: 1, Col: 13},
			{Kind: api.NBlock, Kids: []int{5, 7}, Line: 1, Col: 15},
			{Kind: api.NSet, Name: "x", Kids: []int{6}, Line: 1, Col: 16},
			{Kind: api.NName, Name: "y", Line: 1, Col: 20},
			{Kind: api.NSetAt, Name: "z", Kids: []int{8, 9}, Line: 1, Col: 22},
			{Kind: api.NNumber, Num: 1, Line: 1, Col: 24},
			{Kind: api.NNumber, Num: 3, Line: 1, Col: 29},
		},
	} {
		tree, err := grammar.Build(scanned(t, src))
		if err != nil || !equal(tree, api.Tree{Nodes: want}) {
			t.Errorf("Build of %q: %+v, %v", src, tree, err)
		}
	}
	for _, l := range [][]api.Token{nil, {}, make([]api.Token, 0, 5)} {
		if tree, err := grammar.Build(l); err != nil || !equal(tree, api.Tree{Nodes: []api.Node{{Kind: api.NScene, Line: 1, Col: 1}}}) {
			t.Errorf("Build of no tokens: %+v, %v", tree, err)
		}
	}
}

// 4.1: thrown trees, each written down with needless brackets and with places in no order: the same tree comes back, places and all.
func TestBuildThrown(t *testing.T) {
	kinds := map[int]int{}
	for seed := range 4000 {
		c := chance(seed)
		k := c.scene(seed % 6)
		l := spelled(k, func() int { return max(0, c.below(8)-5) }, func(tok *api.Token) {
			tok.Line, tok.Col = c.below(50)-25, []int{math.MinInt, -1, 0, 1, 2, 99, math.MaxInt}[c.below(7)]
		})
		if want := verdict(l); want.code != api.OK {
			t.Fatalf("seed %d is no scene: %v", seed, want)
		}
		tree, err := grammar.Build(l)
		if err != nil || !equal(tree, flat(k)) {
			t.Fatalf("seed %d: %+v, %v, not %+v", seed, tree, err, flat(k))
		}
		if code := grammar.Valid(tree); code != api.OK {
			t.Fatalf("seed %d: Valid = %d", seed, code)
		}
		for _, n := range tree.Nodes {
			kinds[n.Kind]++
		}
	}
	if len(kinds) != 11+11+12 {
		t.Errorf("only %d kinds of nodes were thrown", len(kinds))
	}
}

// 4.1: every pair of binary operators, from the left and from the right by their strengths.
func TestBuildStrengths(t *testing.T) {
	leaf := func(n uint64) *knot { return tie(api.NNumber, "", n, 0) }
	for _, one := range binaries {
		for _, other := range binaries {
			var l []api.Token
			s := speller{}
			s.mark(api.TConst)
			s.name("A")
			s.mark(api.TSet)
			s.num(1)
			s.mark(one)
			s.num(2)
			s.mark(other)
			s.num(3)
			l = s.list
			for i := range l {
				l[i].Line, l[i].Col = 1, i+1
			}
			tree, err := grammar.Build(l)
			if strengths[one] == 3 && strengths[other] == 3 {
				if placed(err) != (at{1, 7, api.ErrWant}) {
					t.Errorf("%d, %d: %v", one, other, err)
				}
				continue
			}
			sum := tie(api.NBinary, "", 0, other, tie(api.NBinary, "", 0, one, leaf(1), leaf(2)), leaf(3))
			if strengths[other] > strengths[one] {
				sum = tie(api.NBinary, "", 0, one, leaf(1), tie(api.NBinary, "", 0, other, leaf(2), leaf(3)))
			}
			want := flat(tie(api.NScene, "", 0, 0, tie(api.NConst, "A", 0, 0, sum)))
			if err != nil || !grammar.Same(tree, want) {
				t.Errorf("%d, %d: %+v, %v", one, other, tree, err)
			}
		}
	}
}

// Short scenes that have between them all that the grammar has.
var scenes = []string{
	"look 5 end 9", "seed 1 budget 2 fuel 3 const A = 1", "kind a, b, c kind d",
	"const A = -1 + !x[2] * ~(3 - me)", "const B = 1 || 2 && 3 < 4 | 5 ^ 6 & 7 << 8 + 9 * 10",
	"const C = min(1, max(now, from))", "const D = roll(wait(a[b[1]]))", "const E = (1 == 2) != (3 >= 4)",
	"type T { } type U { var a var b[2] var c = 1 var d[3] = 4 }", "type T { on k(x) { } on l(y) { return } }",
	"place p : T place q[2] : T", "place p : T (a = 1) place q[2] : U (a = 1, b[0] = 2)",
	"start k(1) to p at 5", "start k(x + 1) to p[2] at 6 look 1",
	"type T { on k(x) { let a = 1 a = a b[a] = -c } }", "type T { on k(x) { if x { } a = 1 } }",
	"type T { on k(x) { if x { break } else { continue } } }",
	"type T { on k(x) { if a { } else if b { } else if c { } else { } b[1] = 2 } }",
	"type T { on k(x) { while x < 3 { x = y z[1] = 3 } return } }",
	"type T { on k(x) { send k(x) to me after 1 send l(1) to p[a] after wait(2) fail 3 fail x } var a }",
}

// Tokens of every kind, of kinds that are none, and names that are none.
func strangers() []api.Token {
	var l []api.Token
	for kind := -1; kind <= 81; kind++ {
		l = append(l, api.Token{Kind: kind, Text: "n"})
	}
	for _, text := range []string{"", "if", "a b", "_a", "1", "a-", "\xff", strings.Repeat("a", 32)} {
		l = append(l, api.Token{Kind: api.TName, Text: text})
	}
	for _, kind := range []int{math.MinInt, math.MaxInt, 1 << 32, 1<<32 + api.TName, -api.TIf} {
		l = append(l, api.Token{Kind: kind, Text: "n"})
	}
	return l
}

// 4.1, 1. and 3.: at each place of each scene, each token instead of the one there, ahead of it, and at the end.
func TestBuildEachTokenEverywhere(t *testing.T) {
	for _, src := range scenes {
		l := scanned(t, src)
		checkBuild(t, l, at{})
		for i := range len(l) + 1 {
			checkBuild(t, l[:i], verdict(l[:i]))
			for _, x := range strangers() {
				x.Line, x.Col = 7, 70+i
				cut := append(slices.Clone(l[:i]), x)
				checkBuild(t, cut, verdict(cut))
				longer := append(slices.Clone(cut), l[i:]...)
				checkBuild(t, longer, verdict(longer))
				if i < len(l) {
					other := append(slices.Clone(cut), l[i+1:]...)
					checkBuild(t, other, verdict(other))
				}
			}
		}
	}
}

// tryAll goes on behind l with every row of up to so many of these tokens, as far as they fit.
func tryAll(t *testing.T, l []api.Token, r reader, more []api.Token, left int) {
	want := at{}
	if !r.whole() {
		last := l[len(l)-1]
		want = at{last.Line, last.Col + len(last.Text), api.ErrEnds}
	}
	checkBuild(t, l, want)
	if left == 0 {
		return
	}
	for _, x := range more {
		x.Line, x.Col = len(l), 5
		next := append(slices.Clone(l), x)
		if s, ok := r.read(x); ok {
			tryAll(t, next, s, more, left-1)
		} else {
			checkBuild(t, next, at{len(l), 5, api.ErrWant})
		}
	}
}

// 4.1: all short expressions, blocks, bodies and items.
func TestBuildShortLists(t *testing.T) {
	for _, c := range []struct {
		ahead, more string
		many        int
	}{
		{"const A =", "x 1 now roll min ( ) [ ] , - ! < + &&", 6},
		{"const A = x", "y < == || * ^ - ( ) [ ] const", 6},
		{"type T { on k ( x ) {", "x 1 = [ ] { } if else", 8},
		{"type T { on k ( x ) { if x { } else", "if x { } else let while break", 7},
		{"type T { on k ( x ) {", "send k ( 1 ) to after fail x return }", 8},
		{"type T {", "var on k [ 1 ] = ( ) { }", 7},
		{"place p", "[ 1 ] : T ( , = a ) place", 8},
		{"start k ( 1 )", "to p [ 1 ] at start , (", 7},
		{"", "look end 5 kind a , const = type { }", 6},
	} {
		l := scanned(t, c.ahead)
		r := front
		for _, tok := range l {
			r, _ = r.read(tok)
		}
		tryAll(t, l, r, scanned(t, c.more), c.many)
	}
}

// Ways to go one deeper in a handler: what opens stands last in ahead.
var openers = []struct{ ahead, behind string }{
	{"x = (", ") "}, {"x = -", ""}, {"x = !", ""}, {"x = ~", ""}, {"x = a[", "] "}, {"x = roll(", ") "}, {"x = wait(", ") "},
	{"x = min(", ", 1) "}, {"x = max(", ", 1) "}, {"x[", "] = 1 "}, {"send k(", ") to 1 after 1 "},
}

// 4.1, 2.: 48 deep is not too deep, 49 is, whatever opens last; what does not fit is told ahead of that.
func TestBuildDeep(t *testing.T) {
	ifs := func(n int) string { return "type T { on k(x) { " + strings.Repeat("if x { ", n-2) }
	for _, o := range openers {
		for _, deep := range []int{47, 48, 49} {
			src := ifs(deep-1) + o.ahead
			l := scanned(t, src)
			want := at{1, len(src) + 1, api.ErrEnds}
			if deep == 49 {
				want = at{1, len(src), api.ErrDeep}
			}
			checkBuild(t, l, want)
			whole := src + "1" + o.behind + strings.Repeat("}", deep-1)
			if want.code == api.ErrEnds {
				want = at{}
			}
			checkBuild(t, scanned(t, whole), want)
			if v := verdict(scanned(t, whole)); v != want {
				t.Errorf("%q: %v, not %v", few(whole), v, want)
			}
		}
	}
	for _, c := range []struct {
		src  string
		code api.Errno
	}{
		{ifs(48) + "if x {", api.ErrDeep},
		{ifs(48) + "while x {", api.ErrDeep},
		{ifs(48) + "x = )", api.ErrWant},
		{ifs(48) + "{", api.ErrWant},
		{ifs(48) + "x = y + -", api.ErrDeep},
		{ifs(48) + "x = y -", api.ErrEnds},
		{ifs(47) + "if x { } else {", api.ErrEnds},
		{ifs(47) + "if x { } else if y {", api.ErrDeep},
		{ifs(47) + "if x { } else if y[", api.ErrDeep},
		{ifs(47) + "if x { } else if -", api.ErrDeep},
		{ifs(47) + "if x { } if x {", api.ErrEnds},
		{ifs(47) + "x = -y", api.ErrEnds},
		{ifs(47) + "x = --", api.ErrDeep},
		{ifs(47) + "x = -1 - -1 - -", api.ErrEnds},
		{ifs(47) + "x = -1 x = --", api.ErrDeep},
		{ifs(47) + "x = -a[", api.ErrDeep},
		{ifs(46) + "x = -(1) + -(-", api.ErrDeep},
		{ifs(46) + "x = -(1) + -(1 - 1) - -(", api.ErrEnds},
		{ifs(46) + "x = -a[1] - -b[", api.ErrEnds},
		{ifs(46) + "x = -a[-", api.ErrDeep},
		{ifs(46) + "if -a { } else if b {", api.ErrEnds},
		{ifs(46) + "if x { } else if y { } if x { } else if y {", api.ErrEnds},
		{ifs(46) + "if x { } else if y { } else {", api.ErrEnds},
		{ifs(46) + "if x { } else if y { } else if z {", api.ErrDeep},
		{ifs(45) + "if x { } else if y { if z { } else { } } else if z { x = -", api.ErrDeep},
		{ifs(46) + "if x { } else if y { } else { } x = -(", api.ErrEnds},
		{"const A = " + strings.Repeat("(", 47) + "-", api.ErrEnds},
		{"const A = " + strings.Repeat("(", 47) + "--", api.ErrDeep},
		{"const A = " + strings.Repeat("-", 48) + "1 - 1", api.OK},
		{"const A = " + strings.Repeat("-", 49), api.ErrDeep},
		{"const A = " + strings.Repeat("!", 48) + "x[", api.ErrDeep},
		{"const A = " + strings.Repeat("!", 47) + "x[", api.ErrEnds},
		{"type T { var v[" + strings.Repeat("(", 46), api.ErrEnds},
		{"type T { var v[" + strings.Repeat("(", 47), api.ErrDeep},
		{"type T { var v[1] = " + strings.Repeat("(", 48), api.ErrDeep},
		{"place p[" + strings.Repeat("(", 47), api.ErrEnds},
		{"place p[" + strings.Repeat("(", 48), api.ErrDeep},
		{"place p[1] : T (a[" + strings.Repeat("(", 46), api.ErrEnds},
		{"place p[1] : T (a[" + strings.Repeat("(", 47), api.ErrDeep},
		{"place p : T (a = " + strings.Repeat("(", 47), api.ErrEnds},
		{"place p : T (a = " + strings.Repeat("(", 48), api.ErrDeep},
		{"place p : T (a = 1) const A = " + strings.Repeat("(", 48), api.ErrEnds},
		{"start k(" + strings.Repeat("(", 47), api.ErrEnds},
		{"start k(" + strings.Repeat("(", 48), api.ErrDeep},
		{"start k(1) to p[" + strings.Repeat("(", 47), api.ErrEnds},
		{"start k(1) to p[" + strings.Repeat("(", 48), api.ErrDeep},
	} {
		want := at{}
		switch c.code {
		case api.ErrDeep, api.ErrWant:
			want = at{1, len(c.src), c.code}
		case api.ErrEnds:
			want = at{1, len(c.src) + 1, c.code}
		}
		l := scanned(t, c.src)
		checkBuild(t, l, want)
		if v := verdict(l); v != want {
			t.Errorf("%q: %v, not %v", c.src, v, want)
		}
	}
}

// 4.1, 2.: the examples of what is too deep.
func TestBuildDeepExamples(t *testing.T) {
	for src, want := range map[string]at{
		"const A = " + strings.Repeat("(", 48) + "1" + strings.Repeat(")", 48): {},
		"const A = " + strings.Repeat("(", 49) + "1" + strings.Repeat(")", 49): {1, 59, api.ErrDeep},
		"const A = " + strings.Repeat("(", 47) + "--1":                         {1, 59, api.ErrDeep},
		"const A = " + strings.Repeat("-", 48) + "(":                           {1, 59, api.ErrDeep},
		"const A = " + strings.Repeat("-", 48) + "1":                           {},
		"const A = " + strings.Repeat("-", 48) + ")":                           {1, 59, api.ErrWant},
		"const A = " + strings.Repeat("(", 48) + "1 (":                         {1, 61, api.ErrWant},
	} {
		checkBuild(t, scanned(t, src), want)
	}
}

// 4.1: rows of openings of all kinds in one another, and of what closes them, at the bound.
func TestBuildDeepThrown(t *testing.T) {
	texts := []string{"(", "- ", "!", "a[", "roll(", "min(1, ", "1 + (", "x[2] * ~", "(1) - (", "-1 - -", "b[-1] - a["}
	for seed := range 300 {
		c := chance(seed)
		src := "type T { on k(x) { "
		for range 30 + c.below(20) {
			src += []string{"if x { ", "while y { ", "if a { } else { ", "if a { } else if b { ", "if a { } else if b { } else { ", "if -a { } if (b) { "}[c.below(6)]
			if c.below(9) == 0 {
				break
			}
		}
		src += "x = "
		for range 5 + c.below(45) {
			src += texts[c.below(len(texts))]
		}
		l := scanned(t, src)
		want := verdict(l)
		if want.code != api.ErrDeep && want.code != api.ErrEnds {
			t.Fatalf("%q: %v", src, want)
		}
		checkBuild(t, l, want)
	}
}

// 4.1: MaxTokens tokens are taken, one more is refused ahead of all else, at its own place.
func TestBuildTokens(t *testing.T) {
	l := scanned(t, strings.Repeat("kind a ", 8192))
	tree, err := grammar.Build(l)
	if err != nil || len(tree.Nodes) != api.MaxNodes || grammar.Valid(tree) != api.OK {
		t.Errorf("MaxTokens tokens: %d nodes, %v", len(tree.Nodes), err)
	}
	checkBuild(t, append(slices.Clone(l), api.Token{Line: 3, Col: 4}), at{3, 4, api.ErrTokens})
	bad := make([]api.Token, api.MaxTokens+100)
	bad[api.MaxTokens].Line, bad[api.MaxTokens].Col = -8, 9
	checkBuild(t, bad, at{-8, 9, api.ErrTokens})
	bad[0].Line = 5
	checkBuild(t, bad[:api.MaxTokens], at{5, 0, api.ErrWant})
	checkBuild(t, l[:len(l)-1], at{1, 57342, api.ErrEnds})
}

// 4.1: a long row of operators leans to the left all the way.
func TestBuildLongRow(t *testing.T) {
	src := "const A = 1" + strings.Repeat("+1", 8190)
	tree, err := grammar.Build(scanned(t, src))
	if err != nil || len(tree.Nodes) != 2+2*8190+1 || grammar.Valid(tree) != api.OK {
		t.Fatalf("%d nodes, %v", len(tree.Nodes), err)
	}
	for i := range 8190 {
		if n := tree.Nodes[2+i]; n.Kind != api.NBinary || n.Col != 12+2*(8189-i) || !slices.Equal(n.Kids, []int{3 + i, 2 + 2*8190 - i}) {
			t.Fatalf("node %d: %+v", 2+i, n)
		}
	}
}

// 4.1, 3.: the place of an end that comes too early is reckoned from the last token's place and its Text's bytes alone.
func TestBuildEnds(t *testing.T) {
	for _, c := range []struct {
		last      api.Token
		line, col int
	}{
		{api.Token{Kind: api.TConst, Text: "const", Line: 1, Col: 1}, 1, 6},
		{api.Token{Kind: api.TConst, Text: "", Line: 1, Col: 1}, 1, 1},
		{api.Token{Kind: api.TConst, Text: "\u00e9\xff", Line: -3, Col: -7}, -3, -4},
		{api.Token{Kind: api.TKind, Text: "abc", Line: math.MinInt, Col: math.MaxInt}, math.MinInt, math.MinInt + 2},
		{api.Token{Kind: api.TType, Text: "abc", Line: math.MaxInt, Col: math.MinInt}, math.MaxInt, math.MinInt + 3},
		{api.Token{Kind: api.TStart, Text: strings.Repeat("z", 1<<17), Line: 1, Col: 0}, 1, 1 << 17},
	} {
		checkBuild(t, []api.Token{c.last}, at{c.line, c.col, api.ErrEnds})
		checkBuild(t, []api.Token{{Kind: api.TLook}, {Kind: api.TNumber, Text: "777", Line: 9, Col: 9}, c.last}, at{c.line, c.col, api.ErrEnds})
	}
	for _, src := range scenes {
		l := scanned(t, src)
		for i := range l {
			l[i].Line, l[i].Col = 100-i, 3*i
			if v := verdict(l[:i]); v.code == api.ErrEnds {
				checkBuild(t, l[:i], at{101 - i, 3*(i-1) + len(l[i-1].Text), api.ErrEnds})
			}
		}
	}
}

// 4.1 and 'What a token is here': nothing but the named fields is looked at.
func TestBuildLooksAtNoMore(t *testing.T) {
	for _, src := range scenes {
		l := scanned(t, src)
		want, err := grammar.Build(l)
		if err != nil {
			t.Fatal(err)
		}
		for i := range l {
			if l[i].Kind != api.TNumber {
				l[i].Num = 99
			}
			if l[i].Kind != api.TName {
				l[i].Text = []string{"", "x", "if", "}", "\xff"}[i%5]
			}
		}
		if tree, err := grammar.Build(l); err != nil || !equal(tree, want) {
			t.Errorf("%q with other texts and numbers: %v", src, err)
		}
	}
}

// 4.1: the error is a *api.PosError whose Err is the Errno itself, which errors.Is sees.
func TestBuildErrors(t *testing.T) {
	for src, code := range map[string]api.Errno{"look x": api.ErrWant, "look": api.ErrEnds, "const A = " + strings.Repeat("(", 50): api.ErrDeep} {
		_, err := grammar.Build(scanned(t, src))
		if !errors.Is(err, code) || placed(err).code != code {
			t.Errorf("%q: %v", src, err)
		}
	}
}

// 0.4: the list stays as it is; the answer shares no memory with another, nor one list of Kids with the next.
func TestBuildMemory(t *testing.T) {
	for _, src := range scenes {
		l := append(scanned(t, src), api.Token{Kind: 77, Text: "spare"})
		kept := slices.Clone(l)
		one, _ := grammar.Build(l[:len(l)-1])
		if !slices.Equal(l, kept) {
			t.Fatalf("%q: the tokens were changed", src)
		}
		two, _ := grammar.Build(l[:len(l)-1])
		want := copied(two)
		clear(l)
		for i := range one.Nodes {
			n := &one.Nodes[i]
			n.Kids = n.Kids[:cap(n.Kids)]
			for j := range n.Kids {
				n.Kids[j] = -1000*i - j
			}
		}
		for i, n := range one.Nodes {
			for j := range n.Kids {
				if n.Kids[j] != -1000*i-j {
					t.Fatalf("%q: the Kids of node %d share memory", src, i)
				}
			}
		}
		clear(one.Nodes[:cap(one.Nodes)])
		if !equal(two, want) {
			t.Fatalf("%q: two answers share memory", src)
		}
	}
}
