package codegen_test

import (
	"fmt"
	"strings"
	"testing"

	"horizon/api"
	"horizon/codegen"
)

// checkLarge holds Compile and Plan against the place and the code of a text's fault; the place is marked by @, if there is one.
func checkLarge(t *testing.T, marked string, code api.Errno) {
	t.Helper()
	src, line, col := unmarked(marked)
	tree, s := checked(t, src)
	want := at{line, col, code}
	if slow := tooLarge(tree, s); slow != want {
		t.Fatalf("%s: the chapter says %v, not %v", few(marked), slow, want)
	}
	list, err := codegen.Compile(tree, s)
	plan, planErr := codegen.Plan(src)
	if code == api.OK {
		if err != nil || planErr != nil {
			t.Errorf("%s: %v, %v", few(marked), err, planErr)
			return
		}
		compiled(t, src)
		return
	}
	if err == nil || planErr == nil {
		t.Errorf("%s: %v, %v, not %v", few(marked), err, planErr, want)
		return
	}
	if got := placed(t, err); got != want || len(list) != 0 {
		t.Errorf("%s: %v, %v, not %v", few(marked), list, got, want)
	}
	if got := placed(t, planErr); got != want || !isNoPlan(plan) {
		t.Errorf("%s: %v, %v, not %v", few(marked), plan, got, want)
	}
}

// one is a text with one handler.
func one(body string) string {
	return begin + "kind k\ntype T { var v var r[3]\n  @on k(x) { " + body + " } }\nplace p[2] : T"
}

// stops are so many instructions of as few tokens.
func stops(n int) string { return strings.Repeat("return ", n) }

// high is an expression that lays so many values on the stack; it has one binary operator less.
func high(n int) string {
	return strings.Repeat("(x + x * ", (n-1)/2) + []string{"(x + x)", "x"}[n%2] + strings.Repeat(")", (n-1)/2)
}

// 7.4, ErrLocals: 32 locals known at one place are right, 33 are not.
func TestManyLocals(t *testing.T) {
	lets := func(name string, n int) string { return repeat(n, "let "+name+"$ = 1 ") }
	for body, fits := range map[string]bool{
		lets("a", 32): true,
		lets("a", 33): false,
		// Behind their block they are known no more.
		"if x { " + lets("a", 32) + "} else { " + lets("b", 32) + "} while x { " + lets("c", 32) + "}": true,
		"if x { " + lets("a", 32) + "} else { " + lets("b", 33) + "}":                                  false,
		lets("a", 16) + "if x { " + lets("b", 16) + "} " + lets("c", 16):                               true,
		lets("a", 16) + "if x { " + lets("b", 17) + "} " + lets("c", 16):                               false,
		lets("a", 16) + "if x { " + lets("b", 16) + "} " + lets("c", 17):                               false,
		// Hidden ones count.
		lets("a", 16) + "while x { " + lets("a", 16) + "}": true,
		lets("a", 16) + "while x { " + lets("a", 17) + "}": false,
		// It does not matter whether a place is reached.
		"return " + lets("a", 33): false,
		strings.Repeat("if x { ", 40) + lets("a", 32) + strings.Repeat("}", 40):                                        true,
		repeat(33, "if x { let a$ = 1 ") + strings.Repeat("}", 33):                                                     false,
		repeat(32, "if x { let a$ = 1 ") + strings.Repeat("}", 32) + repeat(32, "if x { let a = 1 } ") + lets("c", 32): true,
	} {
		if fits {
			checkLarge(t, strings.Replace(one(body), "@", "", 1), api.OK)
		} else {
			checkLarge(t, one(body), api.ErrLocals)
		}
	}
}

// 7.4, ErrHigh: 64 values on the stack are right, 65 are not: in every statement, under every expression.
func TestHighStacks(t *testing.T) {
	// The number is how many values lie under the expression $.
	for form, under := range map[string]int{
		"let a = $":                             0,
		"v = $":                                 0,
		"r[$] = 1":                              0,
		"r[1] = $":                              1,
		"if $ { }":                              0,
		"if x { } else if $ { } else { }":       0,
		"while $ { }":                           0,
		"send k($) to 1 after 2":                0,
		"send k(1) to $ after 2":                1,
		"send k(1) to 2 after $":                2,
		"fail $":                                0,
		"return fail $":                         0,
		"while 1 { if 2 { r[1] = $ } }":         1,
		"fail 1 && $":                           0,
		"fail 1 || $":                           0,
		"fail $ && 1":                           0,
		"fail $ || 1":                           0,
		"fail 1 && (2 || $)":                    0,
		"fail 1 + (2 && $)":                     1,
		"fail 1 + (2 || $)":                     1,
		"fail 1 + ($ || 2)":                     1,
		"fail 1 == $":                           1,
		"fail $ == 1":                           0,
		"fail 1 << 2 << $":                      1,
		"fail 1 | 2 ^ $":                        2,
		"fail -$":                               0,
		"fail !$":                               0,
		"fail ~$":                               0,
		"fail roll($)":                          0,
		"fail wait($)":                          0,
		"fail 1 + wait($)":                      1,
		"fail min($, 1)":                        0,
		"fail min(1, $)":                        1,
		"fail max(1, $)":                        1,
		"fail max(1, min(2, $))":                2,
		"fail r[$]":                             0,
		"fail p[$]":                             0,
		"fail 1 * p[r[$]]":                      1,
		"r[r[$]] = 1":                           0,
		"r[1] = 2 & 3 == ($)":                   2,
		"let a = 1 if a { let b = min(a, $) }":  1,
		"send k(1 + 2) to min(3, 4) after $ ":   2,
		"send k(1) to 2 - $ after 3":            2,
		"send k(1) to 2 after min(3, 4 * ($))":  4,
		"while x { break continue fail 1 + $ }": 1,
	} {
		fits := strings.ReplaceAll(form, "$", "("+high(api.MaxStack-under)+")")
		checkLarge(t, strings.Replace(one(fits), "@", "", 1), api.OK)
		checkLarge(t, one(strings.ReplaceAll(form, "$", "("+high(api.MaxStack+1-under)+")")), api.ErrHigh)
	}
	// What lies on top may be any expression with one value.
	for _, last := range []string{"1", "x", "v", "C", "p[0]", "r[x]", "now", "me", "from", "-me", "roll(from)", "x && x", "x || x"} {
		for n, code := range map[int]api.Errno{31: api.OK, 32: api.ErrHigh} {
			src := one("fail "+strings.Repeat("x + x * (", n)+"x + ("+last+")"+strings.Repeat(")", n)) + " const C = 1"
			if code == api.OK {
				src = strings.Replace(src, "@", "", 1)
			}
			checkLarge(t, src, code)
		}
	}
}

// 7.4, ErrBig: the type's code up to the end of a handler has up to 4096 instructions.
func TestBigCode(t *testing.T) {
	free := func(s string) string { return strings.Replace(s, "@", "", 1) }
	checkLarge(t, free(one(stops(4095))), api.OK)
	checkLarge(t, one(stops(4096)), api.ErrBig)
	checkLarge(t, one(stops(9000)), api.ErrBig)
	for form, size := range map[string]int{
		"let a = 1": 2, "v = x": 2, "r[1] = 2": 3, "if x { }": 2, "if x { } else { }": 3, "while x { }": 3, "while x { break }": 4,
		"send k(1) to 2 after 3": 4, "fail x": 2, "fail x && x": 7, "fail x || x": 7, "fail r[p[0]]": 4, "fail min(-1, wait(2))": 6,
	} {
		checkLarge(t, free(one(form+" "+stops(4095-size))), api.OK)
		checkLarge(t, one(form+" "+stops(4096-size)), api.ErrBig)
	}
	two := func(a, b int) string {
		return begin + "kind j, k\ntype T { on k(x) { " + stops(a) + "}\n @on j(x) { " + stops(b) + "} }"
	}
	checkLarge(t, free(two(4094, 0)), api.OK)
	checkLarge(t, two(4095, 0), api.ErrBig)
	checkLarge(t, free(two(2000, 2094)), api.OK)
	checkLarge(t, two(2000, 2095), api.ErrBig)
	// Each type counts for itself.
	ofType := func(name string, n int) string {
		return fmt.Sprintf("type %s { on k(x) { %s} }\n", name, stops(n))
	}
	checkLarge(t, begin+"kind k "+ofType("T", 4095)+ofType("U", 4095), api.OK)
	checkLarge(t, begin+"kind k "+ofType("T", 4095)+strings.Replace(ofType("U", 4096), "on", "@on", 1), api.ErrBig)
}

// 7.4: of several faults the first handler's counts, and of one handler's the one that is named first.
func TestFirstLarge(t *testing.T) {
	lets, tall, big := repeat(33, "let a$ = 1 "), "fail "+high(65)+" ", stops(4096)
	ofType := func(name, first, second string) string {
		return "type " + name + " { on a(x) { " + first + "}\n" + "on b(x) { " + second + "} }\n"
	}
	mark := func(s string, nth int) string {
		parts := strings.SplitAfterN(s, "on ", nth+1)
		last := len(parts) - 2
		parts[last] = strings.TrimSuffix(parts[last], "on ") + "@on "
		return strings.Join(parts, "")
	}
	for _, c := range []struct {
		types string
		nth   int
		code  api.Errno
	}{
		{ofType("T", lets+tall+big, ""), 1, api.ErrLocals},
		{ofType("T", big+tall+lets, ""), 1, api.ErrLocals},
		{ofType("T", tall+big, lets), 1, api.ErrHigh},
		{ofType("T", big+tall, lets), 1, api.ErrHigh},
		{ofType("T", big, lets+tall), 1, api.ErrBig},
		{ofType("T", "", lets), 2, api.ErrLocals},
		{ofType("T", "", "") + ofType("U", tall, lets), 3, api.ErrHigh},
		{ofType("T", "", tall) + ofType("U", lets, lets), 2, api.ErrHigh},
		// The code of the handler ahead counts at the next one's end, behind its own faults.
		{ofType("T", stops(4095), lets), 2, api.ErrLocals},
		{ofType("T", stops(4095), tall), 2, api.ErrHigh},
		{ofType("T", stops(4095), "") + ofType("U", lets, lets), 2, api.ErrBig},
	} {
		checkLarge(t, mark(begin+"kind b, a "+c.types, c.nth), c.code)
	}
	// The order of handlers is that of the text, not that of kinds.
	checkLarge(t, begin+"kind a, b type T { @on b(x) { "+tall+"} on a(x) { "+lets+"} }", api.ErrHigh)
}

// 7.4: thrown handlers around the limits.
func TestThrownLarge(t *testing.T) {
	c := chance(74)
	seen := map[api.Errno]int{}
	for range 200 {
		src := begin + "kind a, b, c\n"
		for _, name := range []string{"T", "U"} {
			src += "type " + name + " { "
			for _, kind := range []string{"c", "a", "b"} {
				src += "on " + kind + "(x) { " + c.around() + "}\n"
			}
			src += "}\n"
		}
		tree, err := parse(src)
		if err != nil {
			t.Fatalf("%s: %v", few(src), err)
		}
		_, s := checked(t, src)
		want := tooLarge(tree, s)
		seen[want.code]++
		list, err := codegen.Compile(tree, s)
		if want.code == api.OK {
			if err != nil || len(list) != 2 {
				t.Fatalf("%s: %v", src, err)
			}
		} else if err == nil || placed(t, err) != want || len(list) != 0 {
			t.Fatalf("%s: %v, not %v", src, err, want)
		}
	}
	for _, code := range []api.Errno{api.OK, api.ErrLocals, api.ErrHigh, api.ErrBig} {
		if seen[code] < 15 {
			t.Errorf("%d came up %d times", code, seen[code])
		}
	}
}

// around is a body about as large as one may be.
func (c *chance) around() string {
	switch c.below(4) {
	case 0:
		n := 26 + c.below(8)
		at := c.below(n + 1)
		return repeat(at, "let a$ = x ") + "while x { " + repeat(n-at, "let b$ = x ") + "} "
	case 1:
		return "let a = min(" + high(58+c.below(7)) + ", 1 + " + high(58+c.below(6)) + ") "
	case 2:
		return stops(c.below(3000))
	}
	return "if x && x { send a(x || 1) to me after 3 } "
}
