package vm_test

import (
	"math"
	"slices"
	"strings"
	"testing"

	"horizon/api"
	"horizon/vm"
)

// adder is the program P of the chapter's examples.
func adder(t *testing.T) api.Program {
	t.Helper()
	return made(t, 1, 1, []int{0, -1}, "load 0, data, add, save 0, push 7, me, data, send 1, stop")
}

// 6.1, 6.2: the chapter's examples.
func TestVerifyExamples(t *testing.T) {
	checkDepths(t, adder(t), 2, []int{0, 1, 2, 1, 0, 1, 2, 3, 0}, api.OK)
	check(t, adder(t), 1, api.ErrProgram)
	for _, c := range []struct {
		entry int
		code  string
		want  api.Errno
	}{
		{0, "add", api.ErrJump}, {0, "add, stop", api.ErrStack}, {-1, "add, stop", api.OK}, {2, "add, stop", api.ErrJump},
		{0, "jump 0", api.OK}, {0, "push 1, jump 0", api.ErrStack}, {0, "push 1, zero 3, push 1, stop", api.ErrStack},
		{-1, "stop 1", api.ErrArg}, {-1, "jump 9 1", api.ErrArg}, {-1, "jump 9", api.ErrJump},
	} {
		check(t, made(t, 0, 0, []int{c.entry}, c.code), 1, c.want)
	}
	check(t, api.Program{Code: []api.Instr{{Op: 42}}}, 0, api.ErrOp)
	check(t, made(t, 1, 0, nil, "loadx 1 1"), 0, api.ErrArg)
}

// 6.1, rule 1: each number at its limits and one past them.
func TestVerifySizes(t *testing.T) {
	sized := func(words, locals, code, entries int) api.Program {
		return api.Program{Words: words, Locals: locals, Code: make([]api.Instr, code), Entry: slices.Repeat([]int{-1}, entries)}
	}
	for _, c := range []struct {
		p     api.Program
		kinds int
		want  api.Errno
	}{
		{sized(0, 0, 0, 0), 0, api.OK}, {sized(64, 32, 4096, 32), 32, api.OK},
		{sized(-1, 0, 0, 0), 0, api.ErrProgram}, {sized(65, 0, 0, 0), 0, api.ErrProgram}, {sized(math.MaxInt64, 0, 0, 0), 0, api.ErrProgram}, {sized(math.MinInt64, 0, 0, 0), 0, api.ErrProgram},
		{sized(0, -1, 0, 0), 0, api.ErrProgram}, {sized(0, 33, 0, 0), 0, api.ErrProgram}, {sized(0, math.MaxInt64, 0, 0), 0, api.ErrProgram}, {sized(0, math.MinInt64, 0, 0), 0, api.ErrProgram},
		{sized(0, 0, 4097, 0), 0, api.ErrProgram}, {sized(0, 0, 100000, 0), 0, api.ErrProgram},
		{sized(0, 0, 0, 33), 33, api.ErrProgram}, {sized(0, 0, 0, 33), 32, api.ErrProgram}, {sized(0, 0, 0, 32), 33, api.ErrProgram},
		{sized(0, 0, 0, 0), 1, api.ErrProgram}, {sized(0, 0, 0, 1), 0, api.ErrProgram}, {sized(0, 0, 0, 2), 1, api.ErrProgram},
		{sized(0, 0, 0, 0), -1, api.ErrProgram}, {sized(0, 0, 0, 0), math.MinInt64, api.ErrProgram}, {sized(0, 0, 0, 0), math.MaxInt64, api.ErrProgram},
	} {
		check(t, c.p, c.kinds, c.want)
	}
}

// 6.1: where several rules are broken the one that the chapter names first is told.
func TestVerifyTellsTheFirst(t *testing.T) {
	// Whatever is wrong behind it, each program is wrong from this rule on.
	rows := []struct {
		entry []int
		code  string
		want  api.Errno
	}{
		{[]int{7}, "pop, push 1", api.ErrJump},
		{[]int{0}, "pop, push 1", api.ErrJump},
		{[]int{0}, "pop, zero 0", api.ErrJump},
		{[]int{0, 1}, "push 1, jump 3, stop, pop, pop, pop", api.ErrJump},
		{[]int{0}, "pop, stop, push 1", api.ErrStack},
		{[]int{0}, "jump 9, stop 1, pop", api.ErrJump},
		{[]int{0}, "stop 1, jump 9, pop", api.ErrArg},
		{[]int{9}, "stop 0 1", api.ErrArg},
		{[]int{-2}, "jump -1 -1", api.ErrArg},
	}
	for _, c := range rows {
		p := made(t, 0, 0, c.entry, c.code)
		check(t, p, len(c.entry), c.want)
		check(t, p, len(c.entry)+1, api.ErrProgram)
		p.Words = -1
		check(t, p, len(c.entry), api.ErrProgram)
	}
	bad := api.Instr{Op: api.NumOps, A: 1, B: 1}
	p := made(t, 0, 0, []int{9}, "stop, stop 1, pop")
	p.Code[2] = bad
	check(t, p, 1, api.ErrArg)
	p.Code[0] = bad
	check(t, p, 1, api.ErrOp)
}

// 6.1, rule 2: every instruction with every number near an edge, in programs of several sizes; reached or not.
func TestVerifyNumbers(t *testing.T) {
	right := 0
	for _, size := range []struct{ words, locals, code, kinds int }{{0, 0, 1, 0}, {1, 1, 1, 1}, {2, 3, 5, 4}, {63, 31, 33, 31}, {64, 32, 64, 32}} {
		for op := range api.NumOps {
			for _, a := range edges() {
				for _, b := range edges() {
					p := api.Program{Words: size.words, Locals: size.locals, Code: make([]api.Instr, size.code), Entry: slices.Repeat([]int{-1}, size.kinds)}
					p.Code[size.code/2] = api.Instr{Op: op, A: a, B: b}
					want, code := judged(p, size.kinds)
					checkDepths(t, p, size.kinds, want, code)
					if code == api.OK {
						right++
					}
				}
			}
		}
	}
	if right < 500 {
		t.Errorf("%d programs were right", right)
	}
}

// 6.1, rule 2: rows of words and parts may end at the last one, and not behind it, however long they are.
func TestVerifyRows(t *testing.T) {
	for _, op := range []string{"loadx", "savex", "row"} {
		for size := range api.MaxWords + 1 {
			for a := int64(-1); a <= 65; a++ {
				for b := int64(-1); b <= 65; b++ {
					p := api.Program{Words: size, Code: []api.Instr{{Op: ops[op], A: a, B: b}}}
					most := int64(size)
					if op == "row" {
						most = api.MaxParts
					}
					want := api.ErrArg
					if a >= 0 && b >= 1 && a+b <= most {
						want = api.OK
					}
					if got := vm.Verify(p, 0); got != want {
						t.Fatalf("%s %d %d of %d words: %d, not %d", op, a, b, size, got, want)
					}
				}
			}
		}
	}
}

// 6.1, rule 2: no other number is an instruction's.
func TestVerifyOps(t *testing.T) {
	for _, op := range []int{-1, api.NumOps, api.NumOps + 1, 63, 64, 127, 128, 256, -42, math.MaxInt64, math.MinInt64} {
		check(t, api.Program{Code: []api.Instr{{}, {Op: op}}}, 0, api.ErrOp)
		check(t, api.Program{Code: []api.Instr{{Op: op, A: 1, B: 1}}}, 0, api.ErrOp)
	}
	for op := range api.NumOps {
		p := api.Program{Words: 1, Locals: 1, Entry: []int{-1}, Code: []api.Instr{{Op: op}}}
		if n := spelled(op); n == "loadx" || n == "savex" || n == "row" {
			p.Code[0].B = 1
		}
		checkDepths(t, p, 1, []int{-1}, api.OK)
	}
}

// 6.1, rule 3
func TestVerifyEntries(t *testing.T) {
	for _, c := range []struct {
		at   int
		want api.Errno
	}{{-1, api.OK}, {0, api.OK}, {2, api.OK}, {3, api.ErrJump}, {-2, api.ErrJump}, {4095, api.ErrJump}, {math.MaxInt64, api.ErrJump}, {math.MinInt64, api.ErrJump}} {
		check(t, made(t, 0, 0, []int{c.at}, "stop, stop, stop"), 1, c.want)
		check(t, made(t, 0, 0, []int{-1, 0, c.at}, "stop, stop, stop"), 3, c.want)
	}
	check(t, api.Program{Entry: []int{0}}, 1, api.ErrJump)
	checkDepths(t, api.Program{Entry: []int{-1}}, 1, []int{}, api.OK)
	full := api.Program{Code: make([]api.Instr, api.MaxCode), Entry: []int{api.MaxCode - 1}}
	check(t, full, 1, api.OK)
	full.Entry[0]++
	check(t, full, 1, api.ErrJump)
}

// 6.1, rule 4: each instruction as the last one.
func TestVerifyLast(t *testing.T) {
	for name, op := range ops {
		p := made(t, 1, 1, []int{0}, "push 1, push 1, push 1, stop")
		p.Code[3].Op = op
		if name == "loadx" || name == "savex" || name == "row" {
			p.Code[3].B = 1
		}
		switch name {
		case "stop", "fail":
			checkDepths(t, p, 1, []int{0, 1, 2, 3}, api.OK)
		case "jump":
			p.Code[3].A = 3
			checkDepths(t, p, 1, []int{0, 1, 2, 3}, api.OK)
		case "zero":
			// Its two ways are not alike, but it is its second one that is told.
			p.Code[3].A = 3
			check(t, p, 1, api.ErrJump)
		default:
			check(t, p, 1, api.ErrJump)
		}
		p.Entry[0] = -1
		checkDepths(t, p, 1, []int{-1, -1, -1, -1}, api.OK)
	}
	// Far behind what the stack has run dry of, and only by a jump.
	check(t, made(t, 0, 0, []int{0}, "pop, jump 3, stop, jump 5, stop, push 1"), 1, api.ErrJump)
	check(t, made(t, 0, 0, []int{0}, "pop, jump 3, stop, jump 4, stop, push 1"), 1, api.ErrStack)
}

// 6.1, rule 5: the stack may be as high as it may be, and empty, and no more.
func TestVerifyHeight(t *testing.T) {
	pushes := strings.Repeat("push 1, ", api.MaxStack)
	for name := range ops {
		pops, lays := moved(name)
		for deep := api.MaxStack - 4; deep <= api.MaxStack; deep++ {
			checkMove(t, name, deep, deep-pops+lays > api.MaxStack)
		}
		for deep := range 5 {
			checkMove(t, name, deep, deep < pops)
		}
	}
	check(t, made(t, 0, 0, []int{0}, pushes+"stop"), 1, api.OK)
	check(t, made(t, 0, 0, []int{0}, pushes+"push 1, stop"), 1, api.ErrStack)
	check(t, made(t, 0, 0, []int{0}, pushes+"push 1, fail"), 1, api.ErrStack)
	check(t, made(t, 0, 0, []int{0}, pushes+"pop, push 1, push 1, stop"), 1, api.ErrStack)
}

// checkMove looks at one instruction at one depth.
func checkMove(t *testing.T, name string, deep int, bad bool) {
	t.Helper()
	p := made(t, 1, 1, []int{0}, strings.Repeat("push 1, ", deep)+name+", stop, stop")
	in := &p.Code[deep]
	pops, lays := moved(name)
	behind := deep - pops + lays
	switch name {
	case "loadx", "savex", "row":
		in.B = 1
	case "zero":
		in.A = int64(deep + 1)
	case "jump":
		in.A = int64(deep + 2)
	}
	if bad {
		check(t, p, 1, api.ErrStack)
		return
	}
	want := []int{}
	for i := range deep + 1 {
		want = append(want, i)
	}
	switch name {
	case "stop", "fail":
		want = append(want, -1, -1)
	case "jump":
		want = append(want, -1, behind)
	default:
		want = append(want, behind, -1)
	}
	checkDepths(t, p, 1, want, api.OK)
}

// 6.1, rule 5: two ways to one place.
func TestVerifyWays(t *testing.T) {
	for _, c := range []struct {
		entry []int
		code  string
		want  []int
	}{
		// An entry in the middle is a beginning, with nothing on the stack.
		{[]int{0, 1}, "push 1, stop", nil},
		{[]int{0, 1}, "pop, stop", nil},
		{[]int{0, 2}, "push 1, pop, stop", []int{0, 1, 0}},
		{[]int{1, 1, 1}, "push 1, stop", []int{-1, 0}},
		// Two ways that come together.
		{[]int{0}, "me, zero 4, push 1, jump 5, push 2, save 0, stop", []int{0, 1, 0, 1, 0, 1, 0}},
		{[]int{0}, "me, zero 4, push 1, jump 5, jump 5, save 0, stop", nil},
		{[]int{0}, "me, me, zero 3, pop, stop", []int{0, 1, 2, 1, 0}},
		// Loops.
		{[]int{0}, "push 1, pop, jump 0", []int{0, 1, 0}},
		{[]int{0}, "push 1, pop, push 1, jump 0", nil},
		{[]int{0}, "push 1, me, zero 1, pop, stop", []int{0, 1, 2, 1, 0}},
		{[]int{0}, "push 1, me, me, zero 1, pop, stop", nil},
		{[]int{0}, "push 1, pop, pop, jump 0", nil},
		{[]int{0}, "jump 2, stop, jump 1", []int{0, 0, 0}},
		{[]int{0}, "jump 2, pop, jump 1", nil},
		// What is not reached does not matter.
		{[]int{0}, "stop, pop, push 1, jump 2, send 0", []int{0, -1, -1, -1, -1}},
		{[]int{0}, "push 1, fail, pop, jump 0, pop", []int{0, 1, -1, -1, -1}},
		{[]int{-1}, "pop, add, zero 0, send 0", []int{-1, -1, -1, -1}},
		// What is left at the end of a row does not matter.
		{[]int{0}, "me, me, zero 4, stop, me, me, stop", []int{0, 1, 2, 1, 1, 2, 3}},
	} {
		p := made(t, 1, 0, c.entry, c.code)
		if c.want == nil {
			check(t, p, len(c.entry), api.ErrStack)
		} else {
			checkDepths(t, p, len(c.entry), c.want, api.OK)
		}
	}
}

// 6.1, 6.2: all programs of up to three places, and of four with one entry, of a few instructions.
func TestVerifyAllShort(t *testing.T) {
	count := map[api.Errno]int{}
	for size := range 5 {
		few := []api.Instr{{Op: api.IStop}, {Op: api.IPush, A: 1}, {Op: api.IPop}, {Op: api.IAdd}, {Op: api.ISend}}
		for at := range max(size, 1) {
			few = append(few, api.Instr{Op: api.IJump, A: int64(at)}, api.Instr{Op: api.IZero, A: int64(at)})
		}
		p := api.Program{Code: make([]api.Instr, size), Entry: make([]int, 2)}
		if size == 4 {
			p.Entry = p.Entry[:1]
		}
		var lay func(at int)
		lay = func(at int) {
			if at == size {
				eachEntry(p, func() {
					want, code := judged(p, len(p.Entry))
					checkDepths(t, p, len(p.Entry), want, code)
					count[code]++
				})
				return
			}
			for _, in := range few {
				p.Code[at] = in
				lay(at + 1)
			}
		}
		lay(0)
		if t.Failed() {
			return
		}
	}
	if count[api.OK] < 5000 || count[api.ErrStack] < 5000 || count[api.ErrJump] < 5000 {
		t.Errorf("%v", count)
	}
}

// eachEntry tries all entries from -1 to one past the last place.
func eachEntry(p api.Program, try func()) {
	var lay func(i int)
	lay = func(i int) {
		if i == len(p.Entry) {
			try()
			return
		}
		for at := -1; at <= len(p.Code); at++ {
			p.Entry[i] = at
			lay(i + 1)
		}
	}
	lay(0)
}

// 6.1, 6.2: programs that were thrown, good ones with a change or two.
func TestVerifyThrown(t *testing.T) {
	c := chance(61)
	count := map[api.Errno]int{}
	for range 20000 {
		p := c.program()
		kinds := len(p.Entry)
		for range c.below(3) {
			c.spoil(&p)
		}
		want, code := judged(p, kinds)
		checkDepths(t, p, kinds, want, code)
		if count[code]++; t.Failed() {
			return
		}
	}
	for _, code := range []api.Errno{api.OK, api.ErrProgram, api.ErrOp, api.ErrArg, api.ErrJump, api.ErrStack} {
		if count[code] < 200 {
			t.Errorf("%v", count)
		}
	}
}

// 6.1: the longest program, in which every place is reached from far, is looked at as a whole.
func TestVerifyLongest(t *testing.T) {
	p := api.Program{Entry: []int{0}}
	want := []int{}
	for i := range api.MaxCode {
		// From each end by turns towards the middle: 0, 4095, 1, 4094 ..
		to := api.MaxCode - 1 - i
		if i >= api.MaxCode/2 {
			to++
		}
		p.Code = append(p.Code, api.Instr{Op: api.IJump, A: int64(to)})
		want = append(want, 0)
	}
	checkDepths(t, p, 1, want, api.OK)
	// The middle, at which the way ends, comes last.
	p.Code[api.MaxCode/2] = api.Instr{Op: api.IPop}
	check(t, p, 1, api.ErrStack)
}

// 6.2, 0.4: nothing that is handed in is changed, and each list is new.
func TestDepthsAreNew(t *testing.T) {
	p := adder(t)
	before := adder(t)
	first, _ := vm.Depths(p, 2)
	second, _ := vm.Depths(p, 2)
	for i := range first[:cap(first)] {
		first[:cap(first)][i] = 99
	}
	third, _ := vm.Depths(p, 2)
	want := []int{0, 1, 2, 1, 0, 1, 2, 3, 0}
	if !slices.Equal(second, want) || !slices.Equal(third, want) || !sameProgram(p, before) {
		t.Errorf("%v, %v, %+v", second, third, p)
	}
}
