package codegen_test

import (
	"testing"

	"horizon/api"
	"horizon/vm"
)

// handled is the code of a type with these vars and one handler, on k(x).
type handled struct {
	vars, body string
	locals     int
	code       string
}

func checkHandled(t *testing.T, list []handled) {
	t.Helper()
	for _, h := range list {
		src := begin + "const C = 6 const N = 0 - 7 kind j, k type T { " + h.vars + " on k(x) { " + h.body + " } } place o : T place p[2] : T place q[3] : T place z : T"
		got := compiled(t, src)[0]
		want := assembled(t, got.Words, h.locals, "- 0", h.code)
		if !sameProgram(got, want) {
			t.Errorf("%q: %s, not %s", h.body, listing(got), listing(want))
		}
	}
}

// 7.1, 7.2, 7.3: the examples 1 to 5 of the chapter.
func TestExamples(t *testing.T) {
	checkHandled(t, []handled{
		{"var n", "n = n + x", 0, "load 0, data, add, save 0, stop"},
		{"", "if x > 1 { return } else { fail 7 }", 0, "data, push 1, gt, zero 6, stop, jump 8, push 7, fail, stop"},
		{"", "while x { let a = 1 break } let b = 2", 1, "data, zero 6, push 1, put 0, jump 6, jump 0, push 2, put 0, stop"},
		{"", "let a = x && me || !x", 1, "data, zero 5, me, bool, jump 6, push 0, zero 9, push 1, jump 12, data, not, bool, put 0, stop"},
		{"var a var s[3]", "s[x] = 5 send j(x) to p[0] after now", 0, "data, push 5, savex 1 3, data, push 0, row 1 2, now, send 0, stop"},
	})
	alone := compiled(t, begin+"kind k type T { var n on k(x) { n = n + x } }")[0]
	if want := assembled(t, 1, 0, "0", "load 0, data, add, save 0, stop"); !sameProgram(alone, want) {
		t.Errorf("example 1: %s", listing(alone))
	}
}

// 7.1: Words, Locals, Entry and Code of several types with several handlers.
func TestPrograms(t *testing.T) {
	src := begin + `kind a, b, c, d
	type T { var v on c(x) { let l = 1 if l { let m = 2 } } var r[5] on a(y) { return } on d(x) { let l = v } var w }
	type U { }
	type V { on b(x) { q = x } var r[1] = 3 var q on c(x) { r[0] = 1 } }
	place p[2] : V`
	want := []api.Program{
		assembled(t, 7, 2, "7 - 0 9", "push 1, put 0, get 0, zero 6, push 2, put 1, stop, stop, stop, load 0, put 0, stop"),
		assembled(t, 0, 0, "- - - -", ""),
		assembled(t, 2, 0, "- 0 3 -", "data, save 1, stop, push 0, push 1, savex 0 1, stop"),
	}
	for i, p := range compiled(t, src) {
		if !sameProgram(p, want[i]) {
			t.Errorf("type %d: %s, not %s", i, listing(p), listing(want[i]))
		}
	}
	for _, src := range []string{begin, begin + "kind k"} {
		if l := compiled(t, src); len(l) != 0 {
			t.Errorf("%s: %v", src, l)
		}
	}
	if p := compiled(t, begin+"type T { var v[64] }")[0]; p.Words != 64 || len(p.Entry)+len(p.Code)+p.Locals != 0 {
		t.Errorf("a type without kinds: %+v", p)
	}
}

// 7.1: a handler's code has an IStop behind it, always.
func TestStopBehind(t *testing.T) {
	checkHandled(t, []handled{
		{"", "", 0, "stop"},
		{"", "return", 0, "stop, stop"},
		{"", "fail 1", 0, "push 1, fail, stop"},
		{"", "while 1 { }", 0, "push 1, zero 3, jump 0, stop"},
		{"", "return return", 0, "stop, stop, stop"},
	})
}

// 7.2: each statement of the table.
func TestStatements(t *testing.T) {
	checkHandled(t, []handled{
		{"", "let a = x", 1, "data, put 0, stop"},
		{"", "let a = x a = 2", 1, "data, put 0, push 2, put 0, stop"},
		{"var u var v", "v = x", 0, "data, save 1, stop"},
		{"var u var r[4] var s[1]", "s[me] = now", 0, "me, now, savex 5 1, stop"},
		{"var r[4] var s[60]", "s[r[1]] = r[2]", 0, "push 1, loadx 0 4, push 2, loadx 0 4, savex 4 60, stop"},
		{"", "if x { return }", 0, "data, zero 3, stop, stop"},
		{"", "if x { }", 0, "data, zero 2, stop"},
		{"", "if x { } else { }", 0, "data, zero 3, jump 3, stop"},
		{"", "if x { return } else { fail 1 }", 0, "data, zero 4, stop, jump 6, push 1, fail, stop"},
		{"", "if 1 { } else if 2 { } else if 3 { return }", 0, "push 1, zero 3, jump 9, push 2, zero 6, jump 9, push 3, zero 9, stop, stop"},
		{"", "if 1 { if 2 { return } else { } } else { }", 0, "push 1, zero 7, push 2, zero 6, stop, jump 6, jump 7, stop"},
		{"", "while x { return }", 0, "data, zero 4, stop, jump 0, stop"},
		{"", "return while x { break continue }", 0, "stop, data, zero 6, jump 6, jump 1, jump 1, stop"},
		{"", "while 1 { while 2 { break continue } continue break }", 0, "push 1, zero 10, push 2, zero 7, jump 7, jump 2, jump 2, jump 0, jump 10, jump 0, stop"},
		{"", "while 1 { break while 2 { } continue } while 3 { if 4 { break } else { continue } }", 0, "push 1, zero 8, jump 8, push 2, zero 6, jump 3, jump 0, jump 0, push 3, zero 16, push 4, zero 14, jump 16, jump 15, jump 8, jump 8, stop"},
		{"", "send j(1) to 2 after 3 send k(4) to 5 after 6", 0, "push 1, push 2, push 3, send 0, push 4, push 5, push 6, send 1, stop"},
		{"", "fail x + 1", 0, "data, push 1, add, fail, stop"},
	})
}

// 7.3: each expression of the table.
func TestExpressions(t *testing.T) {
	list := []handled{
		{"", "fail 0", 0, "push 0, fail, stop"},
		{"", "fail 9223372036854775807", 0, "push 9223372036854775807, fail, stop"},
		{"", "fail C + N", 0, "push 6, push -7, add, fail, stop"},
		{"", "fail min(now, max(me, from))", 0, "now, me, from, max, min, fail, stop"},
		{"", "let a = 1 fail a", 1, "push 1, put 0, get 0, fail, stop"},
		{"", "fail x", 0, "data, fail, stop"},
		{"var u var v", "fail v", 0, "load 1, fail, stop"},
		{"", "fail o + z", 0, "push 0, push 6, add, fail, stop"},
		{"var u var r[3]", "fail r[x]", 0, "data, loadx 1 3, fail, stop"},
		{"", "fail q[p[x]]", 0, "data, row 1 2, row 3 3, fail, stop"},
		{"", "fail x && me", 0, "data, zero 5, me, bool, jump 6, push 0, fail, stop"},
		{"", "fail x || me", 0, "data, zero 4, push 1, jump 6, me, bool, fail, stop"},
		{"", "fail 1 && 2 && 3", 0, "push 1, zero 5, push 2, bool, jump 6, push 0, zero 10, push 3, bool, jump 11, push 0, fail, stop"},
		{"", "fail 1 || (2 || 3)", 0, "push 1, zero 4, push 1, jump 11, push 2, zero 8, push 1, jump 10, push 3, bool, bool, fail, stop"},
		{"", "fail -x", 0, "data, neg, fail, stop"},
		{"", "fail !x", 0, "data, not, fail, stop"},
		{"", "fail ~x", 0, "data, flip, fail, stop"},
		{"", "fail ~!-x", 0, "data, neg, not, flip, fail, stop"},
		{"", "fail roll(x)", 0, "data, roll, fail, stop"},
		{"", "fail wait(x)", 0, "data, wait, fail, stop"},
		{"", "fail min(1, 2)", 0, "push 1, push 2, min, fail, stop"},
		{"", "fail max(1, 2)", 0, "push 1, push 2, max, fail, stop"},
		{"", "fail 1 - 2 - 3 * 4", 0, "push 1, push 2, sub, push 3, push 4, mul, sub, fail, stop"},
	}
	for op, name := range map[string]string{
		"==": "eq", "!=": "ne", "<": "lt", "<=": "le", ">": "gt", ">=": "ge", "|": "or", "^": "xor", "&": "and",
		"<<": "shl", ">>": "shr", "+": "add", "-": "sub", "*": "mul", "/": "div", "%": "mod",
	} {
		list = append(list, handled{"", "fail x " + op + " me", 0, "data, me, " + name + ", fail, stop"})
	}
	checkHandled(t, list)
}

// 7.3: nothing is folded, left out or put in another order.
func TestNothingIsFolded(t *testing.T) {
	checkHandled(t, []handled{
		{"", "fail 1 + 2 * 0", 0, "push 1, push 2, push 0, mul, add, fail, stop"},
		{"", "if 0 { return } while 0 { return }", 0, "push 0, zero 3, stop, push 0, zero 7, stop, jump 3, stop"},
		{"", "fail 0 && 1 / 0", 0, "push 0, zero 7, push 1, push 0, div, bool, jump 8, push 0, fail, stop"},
		{"", "fail 1 / 0", 0, "push 1, push 0, div, fail, stop"},
		{"", "fail -5", 0, "push 5, neg, fail, stop"},
		{"", "return fail x", 0, "stop, data, fail, stop"},
		{"var v", "v = v v = 0 + v * 1", 0, "load 0, save 0, push 0, load 0, push 1, mul, add, save 0, stop"},
		{"", "let a = 1", 1, "push 1, put 0, stop"},
	})
}

// 'What a name means': a local, the handler's word, a var, a const, a place, the first that bears it.
func TestNames(t *testing.T) {
	checkHandled(t, []handled{
		{"var x", "fail x", 0, "data, fail, stop"},
		{"var x", "let x = x x = x", 1, "data, put 0, get 0, put 0, stop"},
		{"var C", "fail C C = N", 0, "load 0, fail, push -7, save 0, stop"},
		{"var a var o", "fail o + z", 0, "load 1, push 6, add, fail, stop"},
		{"var p", "fail p + q[0]", 0, "load 0, push 0, row 3 3, add, fail, stop"},
		{"var p[9]", "fail p[0] p[1] = q[2]", 0, "push 0, loadx 0 9, fail, push 1, push 2, row 3 3, savex 0 9, stop"},
		{"var r[2]", "if x { let r = 1 r = 2 fail r } r[0] = r[1]", 1, "data, zero 8, push 1, put 0, push 2, put 0, get 0, fail, push 0, push 1, loadx 0 2, savex 0 2, stop"},
		{"", "let k = 1 let T = k send k(T) to 0 after 1", 2, "push 1, put 0, get 0, put 1, get 1, push 0, push 1, send 1, stop"},
		{"", "let C = C let o = o let p = p[1] fail C + o + p", 3, "push 6, put 0, push 0, put 1, push 1, row 1 2, put 2, get 0, get 1, add, get 2, add, fail, stop"},
		{"var v", "while v { let v = v v = 2 } v = 3", 1, "load 0, zero 7, load 0, put 0, push 2, put 0, jump 0, push 3, save 0, stop"},
		{"", "if 1 { let x = 2 } else { fail x } fail x", 1, "push 1, zero 5, push 2, put 0, jump 7, data, fail, data, fail, stop"},
	})
}

// 'A local's number': how many are known ahead of its let, hidden ones too; a number is given anew.
func TestLocalNumbers(t *testing.T) {
	checkHandled(t, []handled{
		{"", "let a = 1 let b = 2 let c = 3", 3, "push 1, put 0, push 2, put 1, push 3, put 2, stop"},
		{"", "let a = 1 if a { let a = 2 if a { let a = 3 a = 4 } a = 5 } a = 6", 3, "push 1, put 0, get 0, zero 14, push 2, put 1, get 1, zero 12, push 3, put 2, push 4, put 2, push 5, put 1, push 6, put 0, stop"},
		{"", "if 1 { let a = 1 let b = 2 } else if 2 { let c = 3 } else { let d = 4 } let e = 5", 2, "push 1, zero 7, push 1, put 0, push 2, put 1, jump 14, push 2, zero 12, push 3, put 0, jump 14, push 4, put 0, push 5, put 0, stop"},
		{"", "while 1 { let a = 1 while 2 { let b = 2 } let c = 3 c = a } let d = 4", 2, "push 1, zero 14, push 1, put 0, push 2, zero 9, push 2, put 1, jump 4, push 3, put 1, get 0, put 1, jump 0, push 4, put 0, stop"},
		{"", "let a = 1 if 2 { let b = 2 } let c = 3 c = a", 2, "push 1, put 0, push 2, zero 6, push 2, put 1, push 3, put 1, get 0, put 1, stop"},
	})
	// Locals is that of the handler with the most; each handler counts from 0 on.
	p := compiled(t, begin+"kind a, b type T { on a(x) { let u = 1 if x { let v = 2 } } on b(x) { let w = 3 } }")[0]
	if p.Locals != 2 || p.Code[len(p.Code)-2] != (api.Instr{Op: api.IPut}) {
		t.Errorf("%s", listing(p))
	}
}

// shop is the model of DOC.md.
const shop = `look 5  end 200  budget 300  seed 7
    const N = 4
    kind job, done
    type Shop {
      var waiting
      var busy
      var served[2]
      on job(size) {
        waiting = waiting + 1
        if busy == 0 {
          busy = 1
          send done(size) to me after 5 + roll(10)
        }
      }
      on done(size) {
        waiting = waiting - 1
        served[size % 2] = served[size % 2] + 1
        busy = 0
        if waiting > 0 { busy = 1 send done(size + 1) to me after 5 + roll(10) }
        send job(size) to shop[(me + 1) % N] after 6
      }
    }
    place shop[N] : Shop (waiting = 0)
    start job(3) to shop[0] at 0
    start job(8) to shop[2] at 4`

// 7.1, 7.2, 7.3: the handlers of the shop.
func TestShop(t *testing.T) {
	p := compiled(t, shop)[0]
	listed := "load 0, push 1, add, save 0, load 1, push 0, eq, zero 17, push 1, save 1, data, me, push 5, push 10, roll, add, send 1, stop, " +
		"load 0, push 1, sub, save 0, data, push 2, mod, data, push 2, mod, loadx 2 2, push 1, add, savex 2 2, push 0, save 1, " +
		"load 0, push 0, gt, zero 49, push 1, save 1, data, push 1, add, me, push 5, push 10, roll, add, send 1, " +
		"data, me, push 1, add, push 4, mod, row 0 4, push 6, send 0, stop"
	if want := assembled(t, 4, 0, "0 18", listed); !sameProgram(p, want) {
		t.Errorf("%s, not %s", listing(p), listing(want))
	}
	if e := vm.Verify(p, 2); e != api.OK {
		t.Errorf("Verify: %d", e)
	}
}
