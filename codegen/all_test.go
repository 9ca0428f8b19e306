package codegen_test

import (
	"slices"
	"testing"

	"horizon/api"
	"horizon/codegen"
	"horizon/vm"
)

// 7.7, 3: each instruction that is computed, at all pairs of numbers at which something may turn.
func TestEveryConstant(t *testing.T) {
	for op := range api.NumOps {
		two, one := twoValues[op], oneValue[op]
		if two == "" && one == "" {
			continue
		}
		for _, x := range edges() {
			for _, y := range edges() {
				p := api.Program{Entry: []int{0}, Code: []api.Instr{{Op: api.IPush, A: x}, {Op: api.IPush, A: y}, {Op: op}, {Op: api.IFail}}}
				value, fault := ofTwo(two, x, y)
				want := []api.Instr{{Op: api.IPush, A: value}, {Op: api.IFail}}
				switch {
				case one != "":
					want = []api.Instr{{Op: api.IPush, A: x}, {Op: api.IPush, A: ofOne(one, y)}, {Op: api.IFail}}
				case fault != api.OK:
					want = slices.Clone(p.Code)
				}
				got, code := codegen.Tidy(p, 1)
				if code != api.OK || !slices.Equal(got.Code, want) {
					t.Fatalf("%s: %s, %d, not %v", listing(p), listing(got), code, want)
				}
			}
		}
	}
}

// 7.7, 7.8: all programs of up to five places that are made of a few instructions, with one or two entries.
func TestAllPrograms(t *testing.T) {
	c := chance(770)
	count := 0
	for size := range 6 {
		var list []api.Instr
		for _, op := range []int{api.IStop, api.IPop, api.IData, api.INot, api.IDiv}[:5-size/5*2] {
			list = append(list, api.Instr{Op: op})
		}
		list = append(list, api.Instr{Op: api.IPush}, api.Instr{Op: api.IPush, A: 2})
		for place := range size {
			list = append(list, api.Instr{Op: api.IJump, A: int64(place)}, api.Instr{Op: api.IZero, A: int64(place)})
		}
		p := api.Program{Code: make([]api.Instr, size), Entry: []int{0}}
		count += c.allOf(t, p, list, 0)
	}
	if count < 20000 {
		t.Errorf("%d programs", count)
	}
}

// allOf puts every instruction of the list at every place from here on.
func (c *chance) allOf(t *testing.T, p api.Program, list []api.Instr, here int) int {
	count := 0
	if here < len(p.Code) {
		for _, in := range list {
			p.Code[here] = in
			count += c.allOf(t, p, list, here+1)
		}
		return count
	}
	for second := -2; second < len(p.Code); second++ {
		p.Entry = []int{0, second}
		if second == -2 {
			p.Entry = []int{min(0, len(p.Code)-1)}
		}
		if len(p.Code) == 5 && second > -2 || vm.Verify(p, len(p.Entry)) != api.OK {
			continue
		}
		count++
		q := checkTidy(t, p)
		checkSameRun(t, p, q, api.Call{State: api.State{}, Parts: 1, Fuel: 40})
		checkSameRun(t, p, q, api.Call{Event: api.Event{Data: 3, Kind: len(p.Entry) - 1}, Parts: 1, Fuel: 40})
	}
	return count
}

// 7.7, 7.8: thrown programs.
func TestThrownPrograms(t *testing.T) {
	c := chance(78)
	seen := map[api.Errno]int{}
	shorter := 0
	for range 10000 {
		p := c.program()
		q := checkTidy(t, p)
		if len(q.Code) < len(p.Code) {
			shorter++
		}
		for range 5 {
			call := c.calling(p.Words, len(p.Entry))
			call.Fuel = 200
			seen[checkSameRun(t, p, q, call)]++
		}
	}
	for _, code := range []api.Errno{api.OK, api.FaultDivide, api.FaultShift, api.FaultIndex, api.FaultDelay, api.FaultRoll, api.FaultUser} {
		if seen[code] < 50 {
			t.Errorf("%d came up %d times", code, seen[code])
		}
	}
	if shorter < 5000 {
		t.Errorf("%d of them became shorter", shorter)
	}
}

// moved is what an instruction takes from the stack and lays on it.
func moved(op int) (pops, pushes int) {
	switch {
	case twoValues[op] != "":
		return 2, 1
	case oneValue[op] != "":
		return 1, 1
	}
	switch op {
	case api.IStop, api.IJump:
		return 0, 0
	case api.IPop, api.ISave, api.IPut, api.IZero, api.IFail:
		return 1, 0
	case api.ILoadX, api.IRoll, api.IWait, api.IRow:
		return 1, 1
	case api.ISaveX:
		return 2, 0
	case api.ISend:
		return 3, 0
	}
	return 0, 1
}

// program is one that Verify takes: it is thrown instruction by instruction, with a depth for each place, and jumps lead to places of their own depth.
func (c *chance) program() api.Program {
	p := api.Program{Words: 2, Locals: 1}
	depths := []int{0}
	for range 1 + c.below(40) {
		depth := depths[len(p.Code)]
		in := c.instr(depth)
		pops, pushes := moved(in.Op)
		next := depth - pops + pushes
		if in.Op == api.IStop || in.Op == api.IFail || in.Op == api.IJump {
			next = c.below(3)
		}
		p.Code = append(p.Code, in)
		depths = append(depths, next)
	}
	p.Code = append(p.Code, api.Instr{Op: api.IStop})
	for range 1 + c.below(3) {
		entry := c.below(len(depths)+1) - 1
		if entry >= 0 && depths[entry] != 0 {
			entry = 0
		}
		p.Entry = append(p.Entry, entry)
	}
	c.aim(p, depths)
	return p
}

// instr is one that may stand at a depth; pushes and jumps are the rule.
func (c *chance) instr(depth int) api.Instr {
	for {
		in := api.Instr{Op: c.below(api.NumOps)}
		switch c.below(6) {
		case 0:
			in.Op = api.IPush
		case 1:
			in.Op = pick(c, []int{api.IJump, api.IZero, api.IZero, api.IPop})
		}
		pops, pushes := moved(in.Op)
		often := in.Op != api.IStop && in.Op != api.IFail || c.below(4) == 0
		if pops > depth || depth-pops+pushes > 8 || !often {
			continue
		}
		switch in.Op {
		case api.IPush:
			in.A = c.number()
		case api.ILoad, api.ISave:
			in.A = int64(c.below(2))
		case api.ILoadX, api.ISaveX:
			in.B = int64(1 + c.below(2))
		case api.IRow:
			in.A, in.B = 1, 2
		}
		return in
	}
}

// aim gives every jump a place of its own depth.
func (c *chance) aim(p api.Program, depths []int) {
	for at := range p.Code {
		in := &p.Code[at]
		if in.Op != api.IJump && in.Op != api.IZero {
			continue
		}
		pops, _ := moved(in.Op)
		var fit []int
		for to, depth := range depths[:len(p.Code)] {
			if depth == depths[at]-pops {
				fit = append(fit, to)
			}
		}
		if fit == nil {
			*in = api.Instr{Op: api.IStop}
			continue
		}
		in.A = int64(pick(c, fit))
	}
}

// 7.7: the zero program and Verify's error, for programs with something wrong in them and for other numbers of kinds.
func TestTidyOfNoProgram(t *testing.T) {
	c := chance(771)
	seen := map[api.Errno]int{}
	for range 4000 {
		p := c.program()
		kinds := len(p.Entry)
		c.spoil(&p, &kinds)
		want := vm.Verify(p, kinds)
		seen[want]++
		got, code := codegen.Tidy(p, kinds)
		if code != want || code != api.OK && !isNoProgram(got) {
			t.Fatalf("%+v, %d kinds: %+v, %d, not %d", p, kinds, got, code, want)
		}
	}
	for code := api.ErrProgram; code <= api.ErrOp; code++ {
		if seen[code] < 50 {
			t.Errorf("%d came up %d times", code, seen[code])
		}
	}
	for _, p := range []api.Program{{Words: 65}, {Words: -1}, {Locals: 33}, {Entry: []int{0}}, {Code: make([]api.Instr, api.MaxCode+1)}, {Entry: make([]int, 33)}} {
		if got, code := codegen.Tidy(p, len(p.Entry)); code == api.OK || code != vm.Verify(p, len(p.Entry)) || !isNoProgram(got) {
			t.Errorf("%+v: %+v, %d", p.Words, got, code)
		}
	}
	if got, code := codegen.Tidy(api.Program{}, -1); code != api.ErrProgram || !isNoProgram(got) {
		t.Errorf("-1 kinds: %+v, %d", got, code)
	}
	if got, code := codegen.Tidy(api.Program{Words: 3, Locals: 2}, 0); code != api.OK || got.Words != 3 || got.Locals != 2 {
		t.Errorf("a program without code: %+v, %d", got, code)
	}
}

// spoil changes something of a program.
func (c *chance) spoil(p *api.Program, kinds *int) {
	at := c.below(len(p.Code))
	switch c.below(7) {
	case 0:
		*kinds += pick(c, []int{-1, 1})
	case 1:
		p.Words, p.Locals = pick(c, []int{-1, 0, 65}), pick(c, []int{-1, 0, 33})
	case 2:
		p.Entry[0] = c.below(len(p.Code)+3) - 2
	case 3:
		p.Code = p.Code[:len(p.Code)-1]
	case 4:
		p.Code[at].Op = pick(c, []int{-1, api.NumOps, api.IPop, api.IPush})
	case 5:
		p.Code[at].A = c.number()
	case 6:
		p.Code[at].B = c.number()
	}
}

// 7.7, 7.8: programs at the limit of size: long rows of constants, long chains of jumps, long rings.
func TestLargeTidying(t *testing.T) {
	add := api.Program{Entry: []int{0}, Code: []api.Instr{{Op: api.IPush, A: 1}}}
	for len(add.Code) < api.MaxCode-2 {
		add.Code = append(add.Code, api.Instr{Op: api.IPush, A: 1}, api.Instr{Op: api.IAdd})
	}
	add.Code = append(add.Code, api.Instr{Op: api.IFail})
	if q, e := codegen.Tidy(add, 1); e != api.OK || !slices.Equal(q.Code, []api.Instr{{Op: api.IPush, A: 2048}, {Op: api.IFail}}) {
		t.Errorf("a long sum: %s, %d", listing(q), e)
	}
	// From the last jump to the first, and there an end or none.
	for _, first := range []api.Instr{{Op: api.IStop}, {Op: api.IJump, A: api.MaxCode - 1}, {Op: api.IJump, A: 0}} {
		chain := api.Program{Entry: []int{api.MaxCode - 1, 2000}, Code: []api.Instr{first}}
		for len(chain.Code) < api.MaxCode {
			chain.Code = append(chain.Code, api.Instr{Op: api.IJump, A: int64(len(chain.Code) - 1)})
		}
		want := chain
		if first.Op == api.IStop {
			want = api.Program{Entry: []int{0, 0}, Code: []api.Instr{{Op: api.IStop}}}
		}
		q, e := codegen.Tidy(chain, 2)
		if e != api.OK || !sameProgram(q, want) {
			t.Errorf("a long chain: %s, %d", listing(q), e)
		}
	}
	// From the first jump to the last one: all go but one.
	ring := api.Program{Entry: []int{0, 3000}}
	for at := range api.MaxCode {
		ring.Code = append(ring.Code, api.Instr{Op: api.IJump, A: int64((at + 1) % api.MaxCode)})
	}
	if q, e := codegen.Tidy(ring, 2); e != api.OK || !slices.Equal(q.Code, []api.Instr{{Op: api.IJump}}) || !slices.Equal(q.Entry, []int{0, 0}) {
		t.Errorf("a long ring: %s, %d", listing(q), e)
	}
}

// 0.4: Tidy changes nothing that is handed in, keeps none of it, and answers new memory.
func TestTidyIsNew(t *testing.T) {
	for _, code := range []string{"push 2, push 3, add, fail", "data, fail", "jump 1, stop"} {
		p := assembled(t, 1, 1, "0 -", code)
		p.Code = append(make([]api.Instr, 0, 20), p.Code...)
		p.Entry = append(make([]int, 0, 20), p.Entry...)
		spare := p.Code[:20]
		for i := len(p.Code); i < 20; i++ {
			spare[i] = api.Instr{Op: 99, A: int64(i)}
		}
		before, spareBefore := another(p), slices.Clone(spare)
		first, _ := codegen.Tidy(p, 2)
		second, _ := codegen.Tidy(p, 2)
		want := another(tidied(p))
		if !sameProgram(p, before) || !slices.Equal(spare, spareBefore) {
			t.Errorf("%s was changed", code)
		}
		scribbleProgram(first)
		if !sameProgram(p, before) || !slices.Equal(spare, spareBefore) || !sameProgram(second, want) {
			t.Errorf("%s: an answer lies in what was handed in, or in another answer", code)
		}
		scribbleProgram(p)
		if !sameProgram(second, want) {
			t.Errorf("%s was kept", code)
		}
	}
}

// 7.8: a call that a program has no fuel for, its tidied one may have fuel for; then it is as with more fuel.
func TestTidyWithLessFuel(t *testing.T) {
	p := assembled(t, 1, 0, "0", "push 2, push 3, add, save 0, stop")
	q, _ := codegen.Tidy(p, 1)
	call := api.Call{State: api.State{Words: []int64{1}}, Parts: 1, Fuel: 3}
	if e := vm.Run(p, call); e.Code != api.FaultFuel {
		t.Errorf("%+v", e)
	}
	if e := vm.Run(q, call); e.Code != api.OK || e.State.Words[0] != 5 || e.Used != 3 {
		t.Errorf("%+v", e)
	}
}
