package codegen

import (
	"slices"

	"horizon/api"
	"horizon/vm"
)

// fold computes what is known ahead of every run. All places are reached here: so none goes on behind the last one.
func (t *tidier) fold() {
	free := t.free()
	for at := 0; at < len(t.Code); {
		at += t.foldAt(at, free)
	}
}

// free has the places to which one comes from the place ahead of them alone.
func (t *tidier) free() []bool {
	list := slices.Repeat([]bool{true}, len(t.Code))
	for _, in := range t.Code {
		if jumps(in) {
			list[in.A] = false
		}
	}
	for _, at := range t.Entry {
		if at != -1 {
			list[at] = false
		}
	}
	return list
}

// foldAt answers how many places it is done with.
func (t *tidier) foldAt(at int, free []bool) int {
	if t.Code[at].Op != api.IPush || !free[at+1] {
		return 1
	}
	next := t.Code[at+1]
	switch {
	case next.Op == api.IPush && free[at+2] && takesTwo(t.Code[at+2].Op):
		return t.compute(at, 3)
	case takesOne(next.Op):
		return t.compute(at, 2)
	case next.Op == api.IPop:
		t.step(at)
		t.step(at + 1)
		return 2
	case next.Op == api.IZero:
		t.decide(at)
		return 2
	}
	return 1
}

func takesTwo(op int) bool {
	return op >= api.IAdd && op <= api.IShr || op >= api.IEq && op <= api.IMax
}

func takesOne(op int) bool {
	return op >= api.INeg && op <= api.IFlip || op == api.IBool
}

// compute puts the value of some places into the last of them, unless the machine fails there.
func (t *tidier) compute(at, size int) int {
	code := slices.Concat(t.Code[at:at+size], []api.Instr{{Op: api.ISave}, {Op: api.IStop}})
	e := vm.Run(api.Program{Words: 1, Code: code, Entry: []int{0}}, api.Call{State: api.State{Words: []int64{0}}, Parts: 1, Fuel: len(code)})
	if e.Code != api.OK {
		return 1
	}
	last := at + size - 1
	for i := at; i < last; i++ {
		t.step(i)
	}
	t.Code[last] = api.Instr{Op: api.IPush, A: e.State.Words[0]}
	return size
}

// decide makes an IZero behind its IPush one jump or the other.
func (t *tidier) decide(at int) {
	if t.Code[at].A == 0 {
		t.Code[at+1].Op = api.IJump
	} else {
		t.step(at + 1)
	}
	t.step(at)
}

// step goes to the next place, and is left out in the next round.
func (t *tidier) step(at int) {
	t.Code[at] = api.Instr{Op: api.IJump, A: int64(at + 1)}
}
