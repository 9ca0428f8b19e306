package vm_test

import (
	"math"
	"slices"
	"strings"
	"testing"

	"horizon/api"
	"horizon/vm"
)

// added is the call of the chapter's second example.
func added() api.Call {
	return api.Call{
		Event: api.Event{Key: api.Key{Time: 10, Src: 4, Seq: 1}, Dst: 2, Data: 5},
		State: api.State{Words: []int64{30}, Dice: 9, Sent: 3},
		Look:  5, Parts: 3, Fuel: 9,
	}
}

func checkRun(t *testing.T, p api.Program, c api.Call, want api.Effect) {
	t.Helper()
	if got := vm.Run(p, c); !sameEffect(got, want) {
		t.Errorf("%s on %+v:\n%+v, not\n%+v", few(p), c, got, want)
	}
}

// 6.3: the chapter's examples 2 to 5.
func TestRunExamples(t *testing.T) {
	p := adder(t)
	sent := func(time uint64) []api.Event {
		return []api.Event{{Key: api.Key{Time: time, Src: 2, Seq: 3}, Dst: 2, Kind: 1, Data: 7}}
	}
	before := api.State{Words: []int64{30}, Dice: 9, Sent: 3}
	behind := func(w int64) api.State { return api.State{Words: []int64{w}, Dice: 9, Sent: 4} }
	for _, c := range []struct {
		change func(c *api.Call)
		want   api.Effect
	}{
		{func(c *api.Call) {}, api.Effect{State: behind(35), Out: sent(15), Used: 9}},
		{func(c *api.Call) { c.Fuel = 8 }, api.Effect{Code: api.FaultFuel, State: before, Used: 8}},
		{func(c *api.Call) { c.Event.Data = 4 }, api.Effect{Code: api.FaultDelay, State: before, Used: 8}},
		{func(c *api.Call) { c.Event.Data = -1 }, api.Effect{Code: api.FaultDelay, State: before, Used: 8}},
		{func(c *api.Call) { c.Look, c.Event.Data = 0, 0 }, api.Effect{State: behind(30), Out: sent(10), Used: 9}},
		{func(c *api.Call) { c.Event.Kind = 1 }, api.Effect{State: before}},
		{func(c *api.Call) { c.Event.Kind, c.Fuel = 1, 0 }, api.Effect{State: before}},
		{func(c *api.Call) { c.Event.Key.Time = 18446744073709551610 }, api.Effect{State: behind(35), Out: sent(18446744073709551615), Used: 9}},
		{func(c *api.Call) { c.Event.Key.Time, c.Event.Data = 18446744073709551610, 6 }, api.Effect{Code: api.FaultTime, State: before, Used: 8}},
	} {
		x := added()
		c.change(&x)
		checkRun(t, p, x, c.want)
	}
}

// 6.3: calls that are refused, each number at its limits and one past them; nothing else stands in the answer.
func TestRunRefuses(t *testing.T) {
	for _, c := range []struct {
		change func(c *api.Call)
		ok     bool
	}{
		{func(c *api.Call) { c.Parts = 0 }, false}, {func(c *api.Call) { c.Parts = -1 }, false}, {func(c *api.Call) { c.Parts = math.MinInt64 }, false},
		{func(c *api.Call) { c.Parts, c.Event.Dst = 1, 0 }, true}, {func(c *api.Call) { c.Parts = 64 }, true}, {func(c *api.Call) { c.Parts = 65 }, false}, {func(c *api.Call) { c.Parts = math.MaxInt64 }, false},
		{func(c *api.Call) { c.Event.Dst = -1 }, false}, {func(c *api.Call) { c.Event.Dst = 0 }, true}, {func(c *api.Call) { c.Event.Dst = 3 }, false},
		{func(c *api.Call) { c.Event.Dst = math.MaxInt64 }, false}, {func(c *api.Call) { c.Event.Dst = math.MinInt64 }, false}, {func(c *api.Call) { c.Parts, c.Event.Dst = 64, 63 }, true}, {func(c *api.Call) { c.Parts, c.Event.Dst = 64, 64 }, false},
		{func(c *api.Call) { c.Event.Kind = -1 }, false}, {func(c *api.Call) { c.Event.Kind = 2 }, false}, {func(c *api.Call) { c.Event.Kind = math.MaxInt64 }, false}, {func(c *api.Call) { c.Event.Kind = math.MinInt64 }, false},
		{func(c *api.Call) { c.State.Words = nil }, false}, {func(c *api.Call) { c.State.Words = []int64{1, 2} }, false}, {func(c *api.Call) { c.State.Words = make([]int64, 0, 1) }, false},
		{func(c *api.Call) { c.Fuel = -1 }, false}, {func(c *api.Call) { c.Fuel = 4096 }, true}, {func(c *api.Call) { c.Fuel = 4097 }, false}, {func(c *api.Call) { c.Fuel = math.MinInt64 }, false}, {func(c *api.Call) { c.Fuel = math.MaxInt64 }, false},
		{func(c *api.Call) { c.Event.Key.Src, c.Event.Key.Seq = -7, math.MaxUint64 }, true}, {func(c *api.Call) { c.Event.Key.Src = math.MinInt64 }, true}, {func(c *api.Call) { c.State.Dice, c.State.Sent = math.MaxUint64, math.MaxUint64 }, true},
	} {
		for kind := range 2 {
			x := added()
			x.Event.Kind = kind
			c.change(&x)
			got := vm.Run(adder(t), x)
			if c.ok && got.Code != api.OK {
				t.Errorf("%+v: %+v", x, got)
			}
			if !c.ok && !sameEffect(got, api.Effect{Code: api.ErrArg}) {
				t.Errorf("%+v: %+v, not ErrArg alone", x, got)
			}
		}
	}
	// Nothing may be asked of a program without kinds.
	checkRun(t, api.Program{}, api.Call{Parts: 1}, api.Effect{Code: api.ErrArg})
}

// 6.3: what Verify says of the program comes ahead of what is wrong with the call.
func TestRunVerifies(t *testing.T) {
	for _, c := range []struct {
		p    api.Program
		want api.Errno
	}{
		{api.Program{Words: 65}, api.ErrProgram}, {api.Program{Entry: make([]int, 33)}, api.ErrProgram}, {api.Program{Code: make([]api.Instr, 4097)}, api.ErrProgram},
		{api.Program{Entry: []int{-1}, Code: []api.Instr{{Op: 42}}}, api.ErrOp}, {api.Program{Entry: []int{-1}, Code: []api.Instr{{A: 1}}}, api.ErrArg},
		{api.Program{Entry: []int{-1, 1}, Code: []api.Instr{{}}}, api.ErrJump}, {made(t, 1, 0, []int{-1, 0}, "pop, stop"), api.ErrStack},
		{made(t, 1, 0, []int{2, 0}, "push 1, pop, stop, send 2"), api.ErrArg},
	} {
		for _, call := range []api.Call{{}, added(), {Parts: -1, Fuel: -1}} {
			checkRun(t, c.p, call, api.Effect{Code: c.want})
		}
	}
}

// result is what a row of instructions leaves on the stack; the words are 10, 20, 30, 40, there are three parts.
func result(t *testing.T, code string) (int64, api.Errno) {
	t.Helper()
	p := made(t, 4, 2, []int{0}, code+", save 0, stop")
	c := api.Call{
		Event: api.Event{Key: api.Key{Time: math.MaxUint64 - 2, Src: -7, Seq: 5}, Dst: 1, Data: -11},
		State: api.State{Words: []int64{10, 20, 30, 40}, Dice: 5, Sent: 8},
		Look:  2, Parts: 3, Fuel: api.MaxFuel,
	}
	want := api.Effect{Code: api.OK, State: c.State}
	got := vm.Run(p, c)
	if got.Code != api.OK {
		want.Code, want.Used = got.Code, got.Used
		if got.Used < 1 || got.Used > len(p.Code) || !sameEffect(got, want) {
			t.Errorf("%s: %+v", code, got)
		}
		return 0, got.Code
	}
	if len(got.State.Words) != 4 {
		t.Fatalf("%s: %+v", code, got)
	}
	return got.State.Words[0], api.OK
}

// 6.3: what each instruction makes of what, by DOC.md's table.
func TestMachineValues(t *testing.T) {
	for _, c := range []struct {
		code string
		want int64
	}{
		{"push 5", 5}, {"push -9223372036854775808", math.MinInt64}, {"push 5, push 6, pop", 5}, {"push 5, push 6", 6},
		{"load 0", 10}, {"load 3", 40}, {"push 5, save 3, load 3", 5}, {"push 7, save 1, push 8, save 2, load 1", 7},
		{"push 0, loadx 1 3", 20}, {"push 2, loadx 1 3", 40}, {"push 0, loadx 3 1", 40}, {"push 3, loadx 0 4", 40},
		{"push 2, push 9, savex 1 3, load 3", 9}, {"push 0, push 9, savex 1 3, load 1", 9}, {"push 1, push 9, savex 1 3, load 1", 20},
		{"get 0", 0}, {"get 1", 0}, {"push 6, put 1, get 1", 6}, {"push 6, put 1, get 0", 0}, {"push 6, put 1, push 7, put 1, get 1", 7},
		{"data", -11}, {"now", -3}, {"me", 1}, {"from", -7},
		{"push 2, push 3, add", 5}, {"push 2, push 3, sub", -1}, {"push 2, push 3, mul", 6}, {"push 9223372036854775807, push 1, add", math.MinInt64}, {"push -9223372036854775808, push 1, sub", math.MaxInt64}, {"push 9223372036854775807, push 2, mul", -2},
		{"push 7, push 2, div", 3}, {"push -7, push 2, div", -3}, {"push 7, push -2, div", -3}, {"push 2, push 7, div", 0}, {"push -9223372036854775808, push -1, div", math.MinInt64},
		{"push 7, push 2, mod", 1}, {"push -7, push 2, mod", -1}, {"push 7, push -2, mod", 1}, {"push -9223372036854775808, push -1, mod", 0},
		{"push 12, push 10, and", 8}, {"push 12, push 10, or", 14}, {"push 12, push 10, xor", 6}, {"push -1, push 10, and", 10},
		{"push 3, push 2, shl", 12}, {"push 1, push 63, shl", math.MinInt64}, {"push 1, push 64, shl", 0}, {"push 1, push 9223372036854775807, shl", 0}, {"push 3, push 0, shl", 3},
		{"push 12, push 2, shr", 3}, {"push -12, push 3, shr", -2}, {"push -1, push 64, shr", -1}, {"push 5, push 4294967296, shr", 0}, {"push 3, push 0, shr", 3},
		{"push 5, neg", -5}, {"push -9223372036854775808, neg", math.MinInt64}, {"push 5, not", 0}, {"push 0, not", 1}, {"push 5, flip", -6}, {"push 0, flip", -1}, {"push 5, bool", 1}, {"push 0, bool", 0}, {"push -5, bool", 1},
		{"push 2, push 3, min", 2}, {"push 3, push 2, min", 2}, {"push 2, push 3, max", 3}, {"push 3, push 2, max", 3},
		{"push 0, row 5 2", 5}, {"push 1, row 5 2", 6}, {"push 63, row 0 64", 63}, {"push 0, row 63 1", 63},
		{"push 1, roll", 0}, {"push 4, jump 3, pop", 4}, {"push 5, push 0, zero 4, neg", 5}, {"push 5, push -1, zero 4, neg", -5},
	} {
		if got, code := result(t, c.code); got != c.want || code != api.OK {
			t.Errorf("%s: %d, %d, not %d", c.code, got, code, c.want)
		}
	}
}

// 6.3: comparisons, of all three orders.
func TestMachineCompares(t *testing.T) {
	for name, want := range map[string][3]int64{"eq": {0, 1, 0}, "ne": {1, 0, 1}, "lt": {1, 0, 0}, "le": {1, 1, 0}, "gt": {0, 0, 1}, "ge": {0, 1, 1}} {
		for i, pair := range []string{"push -9223372036854775808, push 9223372036854775807, ", "push -4, push -4, ", "push 1, push 0, "} {
			if got, code := result(t, pair+name); got != want[i] || code != api.OK {
				t.Errorf("%s%s: %d, %d", pair, name, got, code)
			}
		}
	}
}

// 6.3: each instruction with one value or two, at every pair of numbers near an edge.
func TestMachineEdges(t *testing.T) {
	for name := range ops {
		pops, pushes := moved(name)
		if pops == 0 || pops > 2 || pushes == 0 || slices.Contains([]string{"loadx", "row", "roll", "wait"}, name) {
			continue
		}
		p := made(t, 2, 0, []int{0}, strings.Repeat("data, ", pops)+name+", save 0, stop")
		if pops == 2 {
			p.Code[1] = api.Instr{Op: api.ILoad, A: 1}
		}
		for _, a := range edges() {
			for _, b := range edges() {
				c := api.Call{Event: api.Event{Data: a}, State: api.State{Words: []int64{1, b}}, Parts: 1, Fuel: 10}
				want := api.Effect{State: api.State{Words: []int64{0, b}}, Used: len(p.Code)}
				if pops == 1 {
					want.State.Words[0] = ofOne(name, a)
				} else if want.State.Words[0], want.Code = ofTwo(name, a, b); want.Code != api.OK {
					want.State, want.Used = c.State, 3
				}
				checkRun(t, p, c, want)
			}
		}
	}
}

// 6.3: what fails, with which fault.
func TestMachineFaults(t *testing.T) {
	for _, c := range []struct {
		code string
		want api.Errno
	}{
		{"push 3, push 0, div", api.FaultDivide}, {"push 3, push 0, mod", api.FaultDivide}, {"push 0, push 0, div", api.FaultDivide},
		{"push 3, push -1, shl", api.FaultShift}, {"push 3, push -1, shr", api.FaultShift}, {"push 0, push -9223372036854775808, shr", api.FaultShift},
		{"push 3, loadx 1 3", api.FaultIndex}, {"push -1, loadx 1 3", api.FaultIndex}, {"push 1, loadx 0 1", api.FaultIndex}, {"push 9223372036854775807, loadx 1 3", api.FaultIndex}, {"push -9223372036854775808, loadx 1 3", api.FaultIndex},
		{"push 3, push 0, savex 1 3, push 0", api.FaultIndex}, {"push -1, push 0, savex 1 3, push 0", api.FaultIndex}, {"push 9223372036854775807, push 0, savex 3 1, push 0", api.FaultIndex},
		{"push 2, row 5 2", api.FaultIndex}, {"push -1, row 5 2", api.FaultIndex}, {"push 64, row 0 64", api.FaultIndex}, {"push 9223372036854775807, row 5 2", api.FaultIndex},
		{"push 0, roll", api.FaultRoll}, {"push -1, roll", api.FaultRoll}, {"push -9223372036854775808, roll", api.FaultRoll},
		{"push 0, wait", api.FaultRoll}, {"push -1, wait", api.FaultRoll}, {"push -9223372036854775808, wait", api.FaultRoll},
		{"push 0, fail, push 0", api.FaultUser}, {"push 0, push -7, fail", api.FaultUser},
	} {
		if _, code := result(t, c.code); code != c.want {
			t.Errorf("%s: %d, not %d", c.code, code, c.want)
		}
	}
}

// 6.3: a handler without an end stops when the fuel does, whatever it is.
func TestRunEndless(t *testing.T) {
	p := made(t, 1, 0, []int{0}, "load 0, push 1, add, save 0, jump 0")
	for _, fuel := range []int{0, 1, 2, 5, 4095, 4096} {
		c := api.Call{State: api.State{Words: []int64{3}, Dice: 7, Sent: 1}, Parts: 1, Fuel: fuel}
		checkRun(t, p, c, api.Effect{Code: api.FaultFuel, State: c.State, Used: fuel})
	}
	// A loop of 7 instructions a round, with a jump to begin with and 3 at the end: it just ends, or lacks one.
	p = made(t, 1, 0, []int{7}, "load 0, zero 8, load 0, push -1, add, save 0, jump 0, jump 0, stop")
	rounds := func(n int64, fuel int) api.Effect {
		return vm.Run(p, api.Call{State: api.State{Words: []int64{n}}, Parts: 1, Fuel: fuel})
	}
	for n := range int64(20) {
		used := int(1 + 7*n + 3)
		if got := rounds(n, used); !sameEffect(got, api.Effect{State: api.State{Words: []int64{0}}, Used: used}) {
			t.Errorf("%d rounds: %+v", n, got)
		}
		if got := rounds(n, used-1); !sameEffect(got, api.Effect{Code: api.FaultFuel, State: api.State{Words: []int64{n}}, Used: used - 1}) {
			t.Errorf("%d rounds: %+v", n, got)
		}
	}
	if got := rounds(584, 4096); got.Code != api.OK || got.Used != 4092 {
		t.Errorf("584 rounds: %+v", got)
	}
	if got := rounds(585, 4096); got.Code != api.FaultFuel || got.Used != 4096 {
		t.Errorf("585 rounds: %+v", got)
	}
}

// 6.3: locals are 0 at the beginning of every handler, and the stack is empty.
func TestRunBeginsAnew(t *testing.T) {
	p := made(t, 1, 32, []int{0}, "get 31, get 0, add, save 0, push 5, put 31, push 6, put 0, push 9, stop")
	c := api.Call{State: api.State{Words: []int64{3}}, Parts: 1, Fuel: 10}
	for range 3 {
		checkRun(t, p, c, api.Effect{State: api.State{Words: []int64{0}}, Used: 10})
	}
}

// 6.3: the stack at its height holds every value.
func TestRunHigh(t *testing.T) {
	p := made(t, 1, 0, []int{0}, strings.Repeat("push 0, ", api.MaxStack)+strings.Repeat("sub, ", api.MaxStack-1)+"save 0, stop")
	for i := range api.MaxStack {
		p.Code[i].A = int64(i*i + 1)
	}
	// a - (b - (c - ..))
	var want int64
	for i := int64(api.MaxStack - 1); i >= 0; i-- {
		want = i*i + 1 - want
	}
	c := api.Call{State: api.State{Words: []int64{1}}, Parts: 1, Fuel: 200}
	checkRun(t, p, c, api.Effect{State: api.State{Words: []int64{want}}, Used: 2*api.MaxStack + 1})
}

// 6.3: thrown programs on thrown calls, with every fuel that makes a difference.
func TestRunThrown(t *testing.T) {
	c := chance(63)
	count := map[api.Errno]int{}
	for range 20000 {
		p := c.program()
		call := c.calling(p)
		want := ran(p, call)
		checkRun(t, p, call, want)
		count[want.Code]++
		for fuel := range want.Used {
			less := call
			less.Fuel = fuel
			checkRun(t, p, less, api.Effect{Code: api.FaultFuel, State: call.State, Used: fuel})
		}
		if want.Code != api.FaultFuel {
			for _, fuel := range []int{want.Used, want.Used + 1, api.MaxFuel} {
				more := call
				more.Fuel = fuel
				checkRun(t, p, more, want)
			}
		}
		if t.Failed() {
			return
		}
	}
	for code := api.FaultFuel; code <= api.FaultUser; code++ {
		if count[code] < 50 {
			t.Errorf("%v", count)
			break
		}
	}
}

// 6.3: thrown programs and calls with something wrong.
func TestRunThrownWrong(t *testing.T) {
	c := chance(64)
	count := map[api.Errno]int{}
	for range 20000 {
		p := c.program()
		call := c.calling(p)
		if c.below(2) == 0 {
			c.spoil(&p)
		}
		switch c.below(6) {
		case 0:
			call.Parts = c.below(70) - 2
		case 1:
			call.Event.Dst = c.below(8) - 2
		case 2:
			call.Event.Kind = c.below(6) - 2
		case 3:
			call.State.Words = append(call.State.Words, 1)
		case 4:
			call.Fuel = int(c.number())
		}
		want := ran(p, call)
		checkRun(t, p, call, want)
		if count[want.Code]++; t.Failed() {
			return
		}
	}
	for _, code := range []api.Errno{api.OK, api.ErrProgram, api.ErrOp, api.ErrArg, api.ErrJump, api.ErrStack} {
		if count[code] < 100 {
			t.Errorf("%v", count)
		}
	}
}

// 6.4: what is not reached from the entry of the kind, and numbers that no instruction reads, may be others.
func TestRunReadsWhatIsReached(t *testing.T) {
	c := chance(65)
	changed := 0
	for range 3000 {
		p := c.program()
		call := c.calling(p)
		want := vm.Run(p, call)
		one := p
		one.Entry = slices.Repeat([]int{-1}, len(p.Entry))
		one.Entry[call.Event.Kind] = p.Entry[call.Event.Kind]
		reached := reachedPlaces(one)
		other := p
		other.Code = slices.Clone(p.Code)
		other.Entry = slices.Clone(p.Entry)
		for at := range other.Code {
			if !reached[at] {
				other.Code[at] = api.Instr{Op: pick(&c, []int{api.IStop, api.IPush, api.IMe, api.IStop})}
				changed++
			}
		}
		for kind := range other.Entry {
			if kind != call.Event.Kind {
				other.Entry[kind] = -1
			}
		}
		other.Locals = api.MaxLocals
		checkRun(t, other, call, want)
		checkRun(t, p, call, want)
		if t.Failed() {
			return
		}
	}
	if changed < 3000 {
		t.Errorf("%d places were changed", changed)
	}
}

// 6.3, 0.4: nothing that is handed in is changed, what lies behind a list's end too; what is handed out is new memory.
func TestRunSharesNothing(t *testing.T) {
	sending := made(t, 2, 0, []int{0, 10, -1, 16}, "push 1, save 0, push 2, push 0, push 9, send 1, push 5, roll, save 1, stop, push 1, save 0, push 2, push 7, push 9, send 1, push 8, save 1, jump 16")
	before := made(t, 2, 0, []int{0, 10, -1, 16}, "push 1, save 0, push 2, push 0, push 9, send 1, push 5, roll, save 1, stop, push 1, save 0, push 2, push 7, push 9, send 1, push 8, save 1, jump 16")
	for kind := range 4 {
		room := []int64{30, 40, 50, 60}
		c := api.Call{Event: api.Event{Kind: kind}, State: api.State{Words: room[:2], Dice: 1}, Parts: 1, Fuel: 50}
		first := vm.Run(sending, c)
		second := vm.Run(sending, c)
		want := ran(sending, c)
		for _, e := range []api.Effect{first, second} {
			if !sameEffect(e, want) {
				t.Errorf("kind %d: %+v, not %+v", kind, e, want)
			}
		}
		words := first.State.Words
		for i := range words[:cap(words)] {
			words[:cap(words)][i] = 99
		}
		for i := range first.Out[:cap(first.Out)] {
			first.Out[:cap(first.Out)][i].Data = 99
		}
		if !sameEffect(second, want) || !sameEffect(vm.Run(sending, c), want) || !slices.Equal(room, []int64{30, 40, 50, 60}) || !sameProgram(sending, before) {
			t.Errorf("kind %d: %+v, %v, %+v", kind, second, room, sending)
		}
		room[0] = 77
		if !sameEffect(second, api.Effect{Code: want.Code, State: api.State{Words: second.State.Words, Dice: want.State.Dice, Sent: want.State.Sent}, Out: want.Out, Used: want.Used}) || second.State.Words[0] == 77 {
			t.Errorf("kind %d: the state's words are the call's", kind)
		}
	}
}
