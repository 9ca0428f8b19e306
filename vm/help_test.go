package vm_test

import (
	"fmt"
	"math"
	"slices"
	"strings"
	"testing"

	"horizon/api"
	"horizon/vm"
)

// ops has every instruction by its name in the chapter's table.
var ops = map[string]int{
	"stop": api.IStop, "push": api.IPush, "pop": api.IPop, "load": api.ILoad,
	"save": api.ISave, "loadx": api.ILoadX, "savex": api.ISaveX, "get": api.IGet,
	"put": api.IPut, "data": api.IData, "now": api.INow, "me": api.IMe,
	"from": api.IFrom, "add": api.IAdd, "sub": api.ISub, "mul": api.IMul,
	"div": api.IDiv, "mod": api.IMod, "and": api.IAnd, "or": api.IOr,
	"xor": api.IXor, "shl": api.IShl, "shr": api.IShr, "neg": api.INeg,
	"not": api.INot, "flip": api.IFlip, "eq": api.IEq, "ne": api.INe,
	"lt": api.ILt, "le": api.ILe, "gt": api.IGt, "ge": api.IGe,
	"min": api.IMin, "max": api.IMax, "bool": api.IBool, "jump": api.IJump,
	"zero": api.IZero, "roll": api.IRoll, "row": api.IRow, "send": api.ISend,
	"fail": api.IFail, "wait": api.IWait,
}

// names is ops the other way round.
var names = func() map[int]string {
	m := map[int]string{}
	for name, op := range ops {
		m[op] = name
	}
	return m
}()

// spelled is an instruction's name, "" if there is none.
func spelled(op int) string { return names[op] }

// made is a program by its words, its locals, its entries and its instructions, separated by commas.
func made(t *testing.T, words, locals int, entry []int, code string) api.Program {
	t.Helper()
	p := api.Program{Words: words, Locals: locals, Entry: entry}
	for line := range strings.SplitSeq(code, ",") {
		var in api.Instr
		var name string
		n, _ := fmt.Sscan(line, &name, &in.A, &in.B)
		if n == 0 {
			continue
		}
		op, ok := ops[name]
		if !ok {
			t.Fatalf("%q is no instruction", name)
		}
		in.Op = op
		p.Code = append(p.Code, in)
	}
	return p
}

// sameProgram takes an empty list and none for the same.
func sameProgram(a, b api.Program) bool {
	return a.Words == b.Words && a.Locals == b.Locals && slices.Equal(a.Code, b.Code) && slices.Equal(a.Entry, b.Entry)
}

func sameEffect(a, b api.Effect) bool {
	return a.Code == b.Code && sameState(a.State, b.State) && slices.Equal(a.Out, b.Out) && a.Used == b.Used
}

func sameState(a, b api.State) bool {
	return slices.Equal(a.Words, b.Words) && a.Dice == b.Dice && a.Sent == b.Sent
}

// checkDepths holds Verify and Depths against what is wanted, with any list where none is handed in.
func checkDepths(t *testing.T, p api.Program, kinds int, want []int, code api.Errno) {
	t.Helper()
	got, e := vm.Depths(p, kinds)
	if v := vm.Verify(p, kinds); v != code || e != code {
		t.Errorf("%s, %d kinds: Verify %d, Depths %d, not %d", few(p), kinds, v, e, code)
	}
	if code != api.OK && len(got) != 0 || code == api.OK && len(got) != len(p.Code) || want != nil && !slices.Equal(got, want) {
		t.Errorf("%s, %d kinds: %v, not %v", few(p), kinds, got, want)
	}
}

// few is a program's beginning.
func few(p api.Program) string {
	if s := fmt.Sprintf("%+v", p); len(s) > 1000 {
		return s[:1000] + " .."
	} else {
		return s
	}
}

func check(t *testing.T, p api.Program, kinds int, code api.Errno) {
	t.Helper()
	checkDepths(t, p, kinds, nil, code)
}

// edges are numbers at which something may turn.
func edges() []int64 {
	l := []int64{math.MinInt64, math.MinInt64 + 1, math.MaxInt64 - 1, math.MaxInt64, 1 << 32, -1 << 32, 1<<62 + 1}
	for _, n := range []int64{0, 1, 31, 32, 63, 64, 127, 128, 4095, 4096, 8191, 8192} {
		l = append(l, n, n+1, -n, -n-1)
	}
	slices.Sort(l)
	return slices.Compact(l)
}

// chance is a row of numbers that look thrown, and are the same at every run.
type chance uint64

func (c *chance) next() uint64 {
	*c = *c*6364136223846793005 + 1442695040888963407
	x := uint64(*c)
	x ^= x >> 32
	return x * 11400714819323198485
}

func (c *chance) below(n int) int { return int(c.next() >> 33 % uint64(n)) }

// number is small, or at an edge, or any.
func (c *chance) number() int64 {
	switch c.below(4) {
	case 0, 1:
		return int64(c.below(9) - 3)
	case 2:
		l := edges()
		return l[c.below(len(l))]
	}
	return int64(c.next()) >> c.below(64)
}

func pick[T any](c *chance, l []T) T { return l[c.below(len(l))] }

// writable is a program that can be written, and as a rule not verified.
func (c *chance) writable() api.Program {
	p := api.Program{Words: c.below(api.MaxWords + 1), Locals: c.below(api.MaxLocals + 1)}
	for range c.below(6) {
		p.Entry = append(p.Entry, pick(c, []int{-1, 0, 1, c.below(api.MaxCode), 126, 127, 128, api.MaxCode - 1}))
	}
	for range c.below(12) {
		in := api.Instr{Op: c.below(api.NumOps)}
		if c.below(2) == 0 {
			in.A = c.number()
		}
		if c.below(3) == 0 {
			in.B = c.number()
		}
		p.Code = append(p.Code, in)
	}
	return p
}

// unwritable are programs that are one past a limit, each by itself.
func unwritable() []api.Program {
	return []api.Program{
		{Words: -1}, {Words: api.MaxWords + 1}, {Words: math.MinInt64}, {Words: math.MaxInt64},
		{Locals: -1}, {Locals: api.MaxLocals + 1}, {Locals: math.MinInt64}, {Locals: math.MaxInt64},
		{Entry: make([]int, api.MaxKinds+1)},
		{Entry: []int{-2}}, {Entry: []int{0, api.MaxCode}}, {Entry: []int{math.MaxInt64}}, {Entry: []int{math.MinInt64}},
		{Code: make([]api.Instr, api.MaxCode+1)},
		{Code: []api.Instr{{Op: -1}}}, {Code: []api.Instr{{}, {Op: api.NumOps}}}, {Code: []api.Instr{{Op: 64}}}, {Code: []api.Instr{{Op: 256}}},
		{Code: []api.Instr{{Op: math.MaxInt64}}}, {Code: []api.Instr{{Op: math.MinInt64}}},
	}
}

// largest is a program that is at every limit.
func largest() api.Program {
	p := api.Program{Words: api.MaxWords, Locals: api.MaxLocals}
	for i := range api.MaxKinds {
		p.Entry = append(p.Entry, api.MaxCode-1-i)
	}
	for i := range api.MaxCode {
		p.Code = append(p.Code, api.Instr{Op: i % api.NumOps, A: int64(i - 2000), B: int64(i % 3)})
	}
	return p
}
