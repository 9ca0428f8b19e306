package scope_test

import (
	"math"
	"slices"
	"strings"
	"testing"

	"horizon/api"
	"horizon/scope"
)

// 5.2: what is no tree is refused with grammar's own word.
func TestCheckNoTree(t *testing.T) {
	for code, tree := range badTrees(t) {
		if s, err := scope.Check(tree); !isZero(s) || !isPlain(err, code) {
			t.Errorf("%+v, %v, not %d", s, err, code)
		}
	}
}

// 5.2: up to MaxTold faults are told, the first ones.
func TestCheckMany(t *testing.T) {
	for count := range 20 {
		_, got := checked(t, parsed(t, begin+"\n"+strings.Repeat("kind begin\n", count)))
		var want []at
		for i := range count - 1 {
			want = append(want, at{i + 3, 6, api.ErrTwice})
		}
		if want = want[:min(len(want), 8)]; !slices.Equal(got, want) {
			t.Errorf("%d kinds: %v, not %v", count, got, want)
		}
	}
	// What is found by rules that are asked late stands ahead all the same.
	_, got := checked(t, parsed(t, "type T { on z(d) { x = y break } } "+repeat(9, "const A = 1")))
	want := []at{{1, 1, api.ErrMissing}, {1, 10, api.ErrUnknown}, {1, 20, api.ErrUnknown}, {1, 24, api.ErrUnknown}, {1, 26, api.ErrLoop}, {2, 1, api.ErrTwice}, {3, 1, api.ErrTwice}, {4, 1, api.ErrTwice}}
	if !slices.Equal(got, want) {
		t.Errorf("%v, not %v", got, want)
	}
}

// 5.2: the order is that of the nodes, whatever their lines and columns are.
func TestCheckOrder(t *testing.T) {
	tree := parsed(t, begin+"kind k, k type T { on k(d) { x = y break } } start z(1 / 0) to p at 0")
	for i := range tree.Nodes {
		if i > 0 {
			tree.Nodes[i].Line, tree.Nodes[i].Col = 100-i, -i
		}
	}
	_, got := checked(t, tree)
	var codes []api.Errno
	line := 101
	for _, a := range got {
		codes = append(codes, a.code)
		if a.line >= line || a.col != a.line-100 {
			t.Errorf("%v behind the line %d", a, line)
		}
		line = a.line
	}
	want := []api.Errno{api.ErrTwice, api.ErrUnknown, api.ErrUnknown, api.ErrLoop, api.ErrUnknown, api.ErrFold, api.ErrUnknown}
	if !slices.Equal(codes, want) {
		t.Errorf("%v, not %v", codes, want)
	}
	for i := range tree.Nodes[1:] {
		tree.Nodes[i+1].Line, tree.Nodes[i+1].Col = math.MaxInt64, math.MinInt64
	}
	_, got = checked(t, tree)
	for i, a := range got {
		if a != (at{math.MaxInt64, math.MinInt64, want[i]}) {
			t.Errorf("%d: %v", i, a)
		}
	}
	if len(got) != len(want) {
		t.Errorf("%v", got)
	}
}

// 5.2: each answer is new, the tree stays as it is.
func TestCheckErrorsAreNew(t *testing.T) {
	tree := parsed(t, begin+"kind k, k, k")
	before := copied(tree)
	_, err := scope.Check(tree)
	many := err.(*api.ManyError)
	*many.List[0].(*api.PosError) = api.PosError{}
	many.List[1] = nil
	if _, got := checked(t, tree); !slices.Equal(got, []at{{1, 22, api.ErrTwice}, {1, 25, api.ErrTwice}}) {
		t.Errorf("%v", got)
	}
	for i, n := range tree.Nodes {
		if b := before.Nodes[i]; n.Name != b.Name || n.Line != b.Line || n.Col != b.Col || !slices.Equal(n.Kids, b.Kids) {
			t.Errorf("node %d: %+v", i, n)
		}
	}
}

// 5.3: one name space; who comes second declares nothing, and what lies in it is checked.
func TestGlobalNames(t *testing.T) {
	checkMarked(t, []string{
		"const A = 3 kind @50 A, b kind @50 b",
		"kind A @50 const A = 1",
		"type A { } @50 const A = 1",
		"type T { } place A : T @50 type A { } kind @50 A kind B, @50 A",
		"type T { } @50 place T : T",
		"kind k @50 const k = 1 const B = @51 k",
		"const A = 1 @50 const A = @51 z const B = A",
		"const A = 1 @50 const A = 1 @53 / 0 const B = 1 / A",
		"const A = 0 @50 const A = 1 const B = 1 @53 / A",
		"kind k @50 type k { var a[@54 0] @50 var a @51 on z(d) { @58 break } }",
		"type T { var a } @50 type T { var b @52 on T(d) { b = @51 a } } place p : T (@51 b = 1)",
		"kind k @50 place k : @51 z (a = @53 now)",
		// Kinds, types, places are known ahead of their declaration.
		"start k(1) to p at 0 place p : T type T { on k(d) { @52 d = 1 send k(p) to p after A } } kind k const A = 1",
		// The names of vars, locals and handlers' words are no global ones.
		"const v = 1 kind k type T { var v var k var T on k(T) { let k = 1 let v = 2 } }",
	})
}

// 5.3: as many as may be, and one more; each one more.
func TestGlobalCounts(t *testing.T) {
	for _, c := range []struct {
		text      string
		most, col int
	}{{"const n$ = 1", api.MaxConsts, 1}, {"kind n$", api.MaxKinds, 6}, {"type n$ { }", api.MaxTypes, 1}} {
		for more := range 4 {
			var want []at
			for i := range more {
				want = append(want, at{c.most + i + 2, c.col, api.ErrCount})
			}
			if _, got := checked(t, parsed(t, begin+"\n"+repeat(c.most+more, c.text))); !slices.Equal(got, want) {
				t.Errorf("%s, %d more: %v", c.text, more, got)
			}
		}
	}
	// Who comes second is not counted; one too many is declared all the same, with its value.
	src := begin + "\n" + repeat(api.MaxConsts, "const n$ = 1") + "const n0 = 2\nconst x = 7\nconst n1 = 1 const n2 = 1 const y = x - 7 const z = 1 / y kind k, k, x"
	want := []at{{66, 1, 50}, {67, 1, 55}, {68, 1, 50}, {68, 14, 50}, {68, 27, 55}, {68, 43, 55}, {68, 55, 53}, {68, 67, 50}}
	if _, got := checked(t, parsed(t, src)); !slices.Equal(got, want) {
		t.Errorf("%v, not %v", got, want)
	}
	// Each sort has a count of its own, places have none.
	src = begin + repeat(api.MaxConsts, "const c$ = 1") + repeat(api.MaxKinds, "kind k$") + repeat(api.MaxTypes, "type t$ { }") + repeat(api.MaxParts, "place p$ : t0")
	s := scene(t, src)
	if len(s.Consts) != 64 || len(s.Kinds) != 32 || len(s.Types) != 16 || len(s.Places) != 64 {
		t.Errorf("%+v", s)
	}
}

// 5.4: settings, once each, each in its range.
func TestSettings(t *testing.T) {
	for src, want := range map[string][]at{
		"":                           {{1, 1, api.ErrMissing}},
		"look 5":                     {{1, 1, api.ErrMissing}},
		"end 5":                      {{1, 1, api.ErrMissing}},
		"seed 1 budget 2 fuel 3":     {{1, 1, api.ErrMissing}},
		"look 0":                     {{1, 1, api.ErrMissing}, {1, 1, api.ErrRange}},
		"look 0 end 9":               {{1, 1, api.ErrRange}},
		"end 0 look 1":               nil,
		"look 0 end 9 look 3":        {{1, 1, api.ErrRange}, {1, 14, api.ErrTwice}},
		"look 1 end 9 look 0":        {{1, 14, api.ErrTwice}},
		"look 1 end 9 end 9":         {{1, 14, api.ErrTwice}},
		"look 1 look 1 look 1 end 9": {{1, 8, api.ErrTwice}, {1, 15, api.ErrTwice}},
		"seed 1 look 1 seed 1 end 1": {{1, 15, api.ErrTwice}},
		"look 1 end 1 budget 4096 fuel 4096 seed 18446744073709551615":          nil,
		"look 1 end 1 budget 4097 fuel 4097":                                    {{1, 14, api.ErrRange}, {1, 26, api.ErrRange}},
		"look 1 end 1 budget 0 fuel 0 seed 0":                                   {{1, 23, api.ErrRange}},
		"look 1 end 1 budget 1 fuel 1":                                          nil,
		"look 1 end 1 budget 5000 budget 5000 fuel 0 fuel 0":                    {{1, 14, api.ErrRange}, {1, 26, api.ErrTwice}, {1, 38, api.ErrRange}, {1, 45, api.ErrTwice}},
		"look 18446744073709551615 end 18446744073709551615":                    nil,
		"look 1 end 1 budget 18446744073709551615 fuel 18446744073709551615":    {{1, 14, api.ErrRange}, {1, 42, api.ErrRange}},
		"look 1 end 1 budget 9223372036854775808 fuel 9223372036854775809":      {{1, 14, api.ErrRange}, {1, 41, api.ErrRange}},
		"kind k type T { } place p : T start k(1) to p at 18446744073709551615": {{1, 1, api.ErrMissing}},
	} {
		if _, got := checked(t, parsed(t, src)); !slices.Equal(got, want) {
			t.Errorf("%s: %v, not %v", src, got, want)
		}
	}
}

// 5.5: one fault at most for each constant expression, wherever it stands; consts are known behind their own expression.
func TestConstantExpressions(t *testing.T) {
	checkMarked(t, []string{
		"const A = @51 A",
		"const A = @51 B const B = 1",
		"const A = 1 const B = A const C = B + A",
		"const A = @51 z + y / 0 + now",
		"const A = 1 @53 / 0 + 1 % 0",
		"const A = @57 9223372036854775808",
		"kind k type T { } place p : T const A = @51 k const B = @51 T const C = @51 p",
		"type T { var a[@51 z] = @51 y var b = @53 now var c[1 @53 / 0] }",
		"type T { var a[@51 A] = @51 A } const A = 2 type U { var a[A] = A }",
		"type T { var a var r[2] } place p[@51 z] : T (r[@51 y] = @51 x, a = 1 @53 / 0) place q : T (r[@53 me] = @53 from)",
		"kind k type T { } place p[2] : T start k(@51 z) to p[@51 y] at 0 start k(1 @53 % 0) to p[1 @53 << -1] at 0",
		"kind k type T { on k(d) { let a = 1 / 0 let b = A + B let c = now } } const A = 1 @53 / 0 const B = @51 z",
		// The name of a place, of a type, a handler's word are no constant expressions.
		"kind k type T { var a on k(a) { } } place T2 : T start k(1) to T2 at 0",
	})
}

// 5.5: a const without a value makes what names it have none, without a fault, unless it has one of the first sort.
func TestConstsWithoutValue(t *testing.T) {
	checkMarked(t, []string{
		"const A = @51 B const B = 1 const C = A + 1 / 0",
		"const A = 1 @53 / 0 const B = A const C = B const D = 1 / (C - C)",
		"const A = 1 @53 / 0 const B = A + @51 z",
		"const A = 1 @53 / 0 const B = A + @53 now",
		"const A = 1 @53 / 0 const B = @57 9223372036854775808 + A",
		"const A = 1 @53 / 0 const B = @51 z + A",
		"const A = 1 @53 / 0 const B = 1 / 0 + A const C = A + 1 / 0",
		// Named is named, also where it would not be computed.
		"const A = 1 @53 / 0 const B = 0 && A const C = 1 / B",
		"const A = 1 @53 / 0 const B = 1 || A type T { var r[B - 1] }",
		// No rule that wants the value speaks.
		"const A = @51 z type T { var r[A] var s = A } place p[A] : T (r[A] = 1, r[9] = 1, s = A, @50 s = A) kind k start k(A) to p[A] at 0 start k(A) to p[99] at 0",
		"const A = @51 z @50 const A = 1 const B = 1 / 0 + A",
	})
}

// 5.6: words of a type.
func TestTypeWords(t *testing.T) {
	checkMarked(t, []string{
		"type T { var a[@54 0] var b[@54 65] @55 var c[64] @55 var d }",
		"type T { var a @50 var a[@54 0] }",
		"type T { var a[64] }",
		"type T { var a[64] @55 var b }",
		"type T { var a[1] var b[63] }",
		"type T { var a[63] @55 var b[2] @55 var c }",
		"type T { var a[@54 -1] }",
		"type T { var a[2 @54 - 2] }",
		"type T { var a[9223372036854775807 @54 + 1] var b[@54 4294967297] }",
		// One that comes second takes no words; one whose size cannot be takes one.
		"type T { var a[63] @50 var a[64] var b }",
		"type T { var a[63] @50 var a[1 @53 / 0] var b @55 var c }",
		"type T { var a[62] var b[@54 0] var c[@51 z] }",
		"type T { var a[62] var b[@54 0] var c[@51 z] @55 var d }",
		"type T { var a[63] var b[@54 0] @55 var c[@51 z] }",
		// Each type counts for itself.
		"type T { var a[64] } type U { var a[64] }",
		"type T { var a[64] } @50 type T { var a[64] @50 var a @55 var b }",
		"type T { var a = 1 var b[2] = 3 @50 var a = @51 z }",
		// Consts may have a var's name.
		"const a = 2 type T { var a[a] = a var b = a }",
	})
	src := begin + "type T {\n" + repeat(api.MaxWords+2, "var n$") + "}"
	if _, got := checked(t, parsed(t, src)); !slices.Equal(got, []at{{66, 1, api.ErrCount}, {67, 1, api.ErrCount}}) {
		t.Errorf("%v", got)
	}
}

// 5.6: the kinds of handlers.
func TestHandlerKinds(t *testing.T) {
	checkMarked(t, []string{
		"type T { @51 on k(d) { } @52 on T(d) { } }",
		"kind k type T { on k(d) { } @50 on k(e) { } }",
		"kind k type T { on k(d) { } } type U { on k(d) { } }",
		"kind k, l type T { on k(d) { } on l(d) { } @50 on k(d) { } @50 on k(d) { } }",
		"type T { @51 on z(d) { } @51 on z(d) { } @52 on T(d) { } @52 on T(d) { } }",
		"const A = 1 type T { @52 on A(d) { } @52 on p(d) { } @51 on a(d) { } var a } place p : T",
		"type T { on k(d) { } } kind k",
		"type T { } kind k @50 type T { on k(d) { } @50 on k(d) { @58 break } }",
	})
}

// 5.7: places, their parts and types.
func TestPlaces(t *testing.T) {
	checkMarked(t, []string{
		"place p : @52 q place q[@54 0] : @51 T @50 place p[@54 65] : @52 k kind k",
		"type T { } place p[64] : T",
		"type T { } place p[64] : T @55 place q : T @55 place r[@54 0] : T",
		"type T { } place p[63] : T place q[@51 z] : T",
		"type T { } place p[63] : T place q[@51 z] : T @55 place r : T",
		"type T { } place p[63] : T place q[@54 -1] : T @55 place r : T",
		// One that comes second is looked at, but makes no parts.
		"type T { } place p[63] : T @50 place p[64] : T place q : T",
		"type T { } place p[64] : T @50 place p[@54 65] : T @50 place T[1 @53 / 0] : @51 z",
		"type T { } place p[40] : T @55 place q[40] : T @55 place r : T",
		"const A = 1 place p : @52 A place q : @52 p",
		// The size may be a name, like the type.
		"const T = 3 type U { } place p[T] : U place q[T] : @52 T",
	})
}

// 5.7: what is given.
func TestGives(t *testing.T) {
	const types = "type T { var r[2] var s } "
	checkMarked(t, []string{
		types + "place p : T (r[0] = 1, @50 r = 2, @50 r[1] = 3, @52 s[0] = 1, @51 t = 4, r[@54 2] = 5, s = 1, @50 s = 1)",
		types + "place p : T (r[0] = 1, r[1] = 2, s = 3)",
		types + "place p : T (r = 1, s = 2) place q : T (r = 1, s = 2)",
		types + "place p : T (r[0] = 1, @50 r[0] = 2, @50 r[0] = 3)",
		types + "place p : T (r[1] = 1, @50 r = 2)",
		types + "place p : T (r = 1, @50 r = 2)",
		// One with ErrTwice gives its words, too.
		types + "place p : T (r[0] = 1, @50 r = 2, @50 r[1] = 3)",
		// One with another fault gives nothing.
		types + "place p : T (@52 s[0] = 1, s = 2)",
		types + "place p : T (r[@54 2] = 1, r[@54 2] = 1, r[@54 -1] = 1, r = 2)",
		types + "place p : T (r[@51 z] = 1, r[@51 z] = 1, r = 2)",
		types + "place p : T (@51 t = 1, @51 t = 2, @51 t[9] = 3)",
		// A fault in the value is no fault of its own.
		types + "place p : T (s = @51 z, @50 s = 1 @53 / 0, r[0] = @51 y, @50 r = 3)",
		// No type: nothing is said, but of constant expressions.
		types + "place p : @51 z (r[9] = 1, s = 1, s = 1, t = 1, s[1 @53 / 0] = @53 now)",
		types + "kind k place p : @52 k (r[9] = 1, s = 1, s = 1)",
		// A row whose size cannot be.
		"type T { var r[@54 0] } place p : T (r = 1, r = 2, r[0] = 3, r[0] = 4, r[99] = 5)",
		"type T { var r[@51 z] } place p : T (r = 1, r = 2, r[0] = 3, r[0] = 4, r[99] = 5)",
		"type T { var r[@54 65] } place p : T (r = 1, r = 2, r[64] = 3)",
		// A type that is declared behind; a row that is one too many; a place that comes second.
		"place p : T (r[1] = 1, r[@54 2] = 1, @50 r = 3) type T { var r[2] }",
		"type T { var a[64] @55 var r[2] } place p : T (r[1] = 1, r[@54 2] = 1, @50 r = 3, a[63] = 1, a[@54 64] = 1)",
		"kind p @50 place p : T (r[0] = 1, @50 r = 1) type T { var r[1] }",
		// Of several vars of one name the first.
		"type T { var a @50 var a[2] } place p : T (@52 a[0] = 1, a = 1)",
		"type T { var a[2] @50 var a } place p : T (a[0] = 1, @50 a = 1)",
		// The type of that name is the one that is declared.
		"type T { var a } @50 type T { var b } place p : T (a = 1, @51 b = 1)",
	})
}

// 5.8: starts.
func TestStarts(t *testing.T) {
	checkMarked(t, []string{
		"kind k type T { } place p[2] : T place q : T start k(1) to p[@54 2] at 0 start k(1) to @52 q[0] at 0 @52 start T(1) to @52 k at 0 @51 start z(1) to @51 z at 0",
		"kind k type T { } place p[2] : T place q : T start k(1) to p at 0 start k(1) to p[0] at 1 start k(1) to p[1] at 2 start k(1) to q at 3",
		"start k(1) to p[@54 1] at 0 start k(1) to p[@54 -1] at 0 kind k place p[1] : T type T { }",
		"kind k type T { } place p[@54 0] : T place q[@51 z] : T start k(1) to p[9] at 0 start k(1) to q[9] at 0 start k(1) to p at 0",
		// Not of the type's or the place's sort; the kind is looked at by itself.
		"kind k type T { } place p : T const A = 1 @52 start A(A) to @52 T at 0 @52 start p(A) to @52 A[0] at 0 start k(@51 z) to @51 z[9] at 0",
		// A place that comes second is none.
		"kind k, p type T { } @50 place p : T place q : T @50 place q[3] : T start k(1) to @52 p at 0 start k(1) to @52 q[0] at 0",
	})
}

// 5.8: how many starts there are.
func TestStartCounts(t *testing.T) {
	const places = "kind k type T { } place p[16] : T place q[15] : T place r : T\n"
	rows := func(count int) string { return strings.Repeat("start k(1) to p at 0\n", count) }
	ones := func(count int) string { return strings.Repeat("start k(1) to r at 0\n", count) }
	for _, c := range []struct {
		src  string
		want []at
	}{
		{rows(16), nil},
		{rows(16) + ones(2), []at{{18, 1, api.ErrCount}, {19, 1, api.ErrCount}}},
		{rows(17), []at{{18, 1, api.ErrCount}}},
		{rows(15) + "start k(1) to q at 0\n" + ones(1), nil},
		{rows(15) + "start k(1) to q at 0\n" + ones(2), []at{{19, 1, api.ErrCount}}},
		{rows(15) + strings.Repeat("start k(1) to p[3] at 0\n", 16), nil},
		{rows(15) + strings.Repeat("start k(1) to p[3] at 0\n", 17), []at{{33, 1, api.ErrCount}}},
		{ones(256), nil},
		{ones(257), []at{{258, 1, api.ErrCount}}},
		// One with a fault counts, too; its other faults stand ahead.
		{rows(16) + "start z(1) to r at 0\nstart T(1) to r at 0\n" + ones(1), []at{{18, 1, api.ErrUnknown}, {19, 1, api.ErrSort}, {20, 1, api.ErrCount}}},
		{rows(15) + "start z(1) to p at 0\n" + ones(1), []at{{17, 1, api.ErrUnknown}, {18, 1, api.ErrCount}}},
		{rows(15) + "start k(z) to p at 0\n" + ones(1), []at{{17, 9, api.ErrUnknown}, {18, 1, api.ErrCount}}},
		// One start is counted where it is not to be seen how many there are.
		{ones(255) + "start k(1) to z at 0\n" + ones(1), []at{{257, 15, api.ErrUnknown}, {258, 1, api.ErrCount}}},
		{ones(255) + "start k(1) to k at 0\n" + ones(1), []at{{257, 15, api.ErrSort}, {258, 1, api.ErrCount}}},
		{ones(255) + "start k(1) to r[0] at 0\n" + ones(1), []at{{257, 15, api.ErrSort}, {258, 1, api.ErrCount}}},
		{ones(255) + "start k(1) to p[16] at 0\n" + ones(1), []at{{257, 17, api.ErrSize}, {258, 1, api.ErrCount}}},
		{ones(255) + "start k(1) to b at 0\n" + ones(1) + "place b[0] : T", []at{{258, 1, api.ErrCount}, {259, 9, api.ErrSize}}},
		{ones(255) + "start k(1) to b at 0\n" + ones(1) + "place b[z] : T", []at{{258, 1, api.ErrCount}, {259, 9, api.ErrUnknown}}},
		{ones(253) + "start k(1) to b at 0\n" + ones(1) + "place b[3] : T", []at{{256, 1, api.ErrCount}}},
	} {
		if _, got := checked(t, parsed(t, begin+places+c.src)); !slices.Equal(got, c.want) {
			t.Errorf("%s: %v, not %v", c.src[len(c.src)-42:], got, c.want)
		}
	}
}

// 5.9: what may be set.
func TestSets(t *testing.T) {
	const types = "kind k const A = 1 place p : T place q[2] : T type T { var v var r[2] on k(d) { "
	checkMarked(t, []string{
		types + "v = 1 let a = 1 a = 2 r[0] = 1 } }",
		types + "@52 d = 1 @52 A = 1 @52 p = 1 @52 q = 1 @52 k = 1 @52 T = 1 @52 r = 1 @51 z = 1 } }",
		types + "@52 d[0] = 1 @52 A[0] = 1 @52 p[0] = 1 @52 q[0] = 1 @52 k[0] = 1 @52 v[0] = 1 @51 z[0] = 1 } }",
		types + "let r = 1 r = 2 @52 r[0] = 1 let q = 1 q = 2 } }",
		types + "@51 z = @51 y @51 z[@51 x] = @51 w } }",
		"kind k type T { on k(v) { @52 v = 1 } var v }",
		"kind k type T { on k(d) { v = 1 w[0] = v } var v var w[1] }",
	})
}

// 5.9: loops.
func TestLoops(t *testing.T) {
	const on = "kind k type T { on k(d) { "
	checkMarked(t, []string{
		on + "@58 break } }",
		on + "@58 continue } }",
		on + "if d { @58 break } else { @58 continue } } }",
		on + "while d { break continue } @58 break } }",
		on + "while d { if d { break } else if 1 { continue } else { break } } @58 continue } }",
		on + "while d { while d { break } break } } }",
		on + "if d { while d { } @58 break } return } on k2(d) { while d { } @58 continue } } kind k2",
		on + "while d { } } on l(d) { @58 break } } kind l",
	})
}

// 5.9: what a name in an expression may be.
func TestHandlerNames(t *testing.T) {
	const types = "kind k const A = 1 place p : T place q[2] : T type T { var v var r[2] on k(d) { "
	checkMarked(t, []string{
		types + "fail d + A + p + v + q[0] + r[1] } }",
		types + "fail @52 r + @52 q + @52 k + @52 T + @51 z } }",
		types + "fail @52 d[0] + @52 A[0] + @52 p[0] + @52 v[0] + @52 k[0] + @52 T[0] + @51 z[0] } }",
		types + "fail @51 z[@51 y] + q[@51 x] + r[@52 k] } }",
		types + "let r = 1 fail r + @52 r[0] let q = 1 fail q + @52 q[0] let k = 1 fail k } }",
		types + "fail 9223372036854775807 + @57 9223372036854775808 + @57 18446744073709551615 } }",
		types + "fail 1 / 0 fail 1 << -1 fail now + me + from + roll(0) + wait(@51 z) } }",
		types + "send k(@51 z) to @51 y after @51 x @51 send d(@52 r) to @52 q after @52 T @52 send A(1) to 1 after 1 } }",
		types + "let k = 1 send k(k) to k after k @51 send v(1) to 1 after 1 @51 send z(0) to 0 after 0 } }",
		types + "if @51 z { @51 y = @51 x } else if @51 w { v = @51 u } while @51 t { @51 s[9] = @52 p[0] } } }",
		"const A = 1 @53 / 0 const B = @51 z kind k type T { on k(d) { fail A + B + C } } const C = @51 y",
		"kind k type T { on k(d) { fail @52 p + q[@51 z] } } place p[@51 z] : T place q[@54 0] : T",
	})
}

// 5.9: where a local is known, and what hides what.
func TestLocals(t *testing.T) {
	const on = "kind k type T { var v[2] on k(d) { "
	checkMarked(t, []string{
		on + "let a = 1 @50 let a = 2 } }",
		on + "let a = @51 a } }",
		on + "fail @51 a let a = 1 fail a } }",
		on + "@51 a = 1 let a = 1 a = a } }",
		on + "let a = 1 if a { let a = a @50 let a = a } fail a } }",
		on + "if d { let a = 1 } else { fail @51 a } fail @51 a } }",
		on + "if d { let a = 1 } else if @51 a { let a = @51 a } else { let a = @51 a } } }",
		on + "while d { let a = 1 while a { let b = a } fail @51 b } fail @51 a } }",
		on + "if 1 { if 1 { let a = 1 } fail @51 a let a = 2 } if 1 { fail @51 a let a = @51 a } } }",
		on + "if 1 { let a = 1 } let a = 1 if 1 { fail a let a = a } fail a } }",
		// The handler's word, a var, a kind are hidden up to the end of the block.
		on + "let d = d d = 1 } }",
		on + "if 1 { let d = d d = 1 } @52 d = 1 } }",
		on + "if 1 { let v = v[0] v = v } @52 v = @52 v v[0] = v[1] } }",
		on + "if 1 { let k = 1 k = k } @52 k = @52 k } }",
		on + "if 1 { let v = 1 @52 v[0] = @52 v[1] } } }",
		// A local ends with its handler; nothing of another type is known.
		on + "let a = 1 } on l(e) { fail @51 a + @51 d + e } } kind l type U { var w on k(d) { fail @51 v + w } }",
		// Of several vars of one name the first, wherever they stand; also in a type that comes second.
		"kind k type T { on k(d) { v = 1 @52 v[0] = 1 } var v @50 var v[2] }",
		"type T { } kind k @50 type T { on k(d) { v = @51 w } var v }",
		// A var hides a const, a place, a kind; the handler's word hides them all.
		"kind k const A = 1 place p : T type T { var A[2] var p[2] var k on k(p) { fail @52 A + p + k @52 p[0] = 1 A[0] = 1 } }",
	})
}

// 5.1 to 5.9: the examples of the chapter.
func TestExamples(t *testing.T) {
	for src, want := range map[string][]at{
		"look 5 end 9":        nil,
		"look 5":              {{1, 1, api.ErrMissing}},
		"":                    {{1, 1, api.ErrMissing}},
		"look 0 end 9 look 3": {{1, 1, api.ErrRange}, {1, 14, api.ErrTwice}},
		"look 5 end 9 const A = B const B = 1 const C = A + 1 / 0":                                        {{1, 24, api.ErrUnknown}},
		"look 5 end 9 const A = 0 && 1 / 0 const B = 1 / A":                                               {{1, 47, api.ErrFold}},
		"look 5 end 9 const A = 3 kind A, b kind b":                                                       {{1, 31, api.ErrTwice}, {1, 41, api.ErrTwice}},
		"look 5 end 9 kind k type T { var r[3] = 4 var s on k(s) { s = 1 r = 2 r[s] = k x = r[0] + r } }": {{1, 59, api.ErrSort}, {1, 65, api.ErrSort}, {1, 78, api.ErrSort}, {1, 80, api.ErrUnknown}, {1, 91, api.ErrSort}},
		"look 5 end 9 kind k type T { on k(d) { while d { let a = 1 break } break let a = a } }":          {{1, 68, api.ErrLoop}, {1, 82, api.ErrUnknown}},
		"look 5 end 9 const A = 9223372036854775808":                                                      {{1, 24, api.ErrRange}},
		"look 5 end 9 end 10\nconst A = B\nkind k, k\ntype T { var v[70] on k(x) { y = 1 break send j(0) to z after 1 } on k(x) { } }": {
			{1, 14, 50}, {2, 11, 51}, {3, 9, 50}, {4, 16, 54}, {4, 30, 51}, {4, 36, 58}, {4, 42, 51}, {4, 55, 51},
		},
	} {
		if _, got := checked(t, parsed(t, src)); !slices.Equal(got, want) {
			t.Errorf("%s: %v, not %v", src, got, want)
		}
	}
}
