package vm_test

import (
	"fmt"
	"slices"
	"strings"
	"testing"

	"horizon/api"
	"horizon/vm"
)

// told is 6.8.
func told(p api.Program) string {
	s := fmt.Sprintf("words %d\nlocals %d\nentry", p.Words, p.Locals)
	for _, at := range p.Entry {
		if at == -1 {
			s += " -"
		} else {
			s += fmt.Sprintf(" %d", at)
		}
	}
	s += "\n"
	for _, in := range p.Code {
		name := spelled(in.Op)
		two := slices.Contains([]string{"loadx", "savex", "row"}, name)
		one := slices.Contains([]string{"push", "load", "save", "get", "put", "jump", "zero", "send"}, name)
		switch {
		case two || in.B != 0:
			s += fmt.Sprintf("%s %d %d\n", name, in.A, in.B)
		case one || in.A != 0:
			s += fmt.Sprintf("%s %d\n", name, in.A)
		default:
			s += name + "\n"
		}
	}
	return s
}

// checkListed holds List and Assemble of a program that can be written against one another and against the chapter.
func checkListed(t *testing.T, p api.Program) {
	t.Helper()
	want := told(p)
	if got := vm.List(p); got != want {
		t.Errorf("List(%s) = %q, not %q", few(p), got, want)
	}
	if len(want) > api.MaxText {
		return
	}
	if got, err := vm.Assemble(want); err != nil || !sameProgram(got, p) {
		t.Errorf("Assemble(%.300q) = %s, %v", want, few(got), err)
	}
}

// 6.8: the chapter's example 9.
func TestListExample(t *testing.T) {
	if s := vm.List(adder(t)); s != "words 1\nlocals 1\nentry 0 -\nload 0\ndata\nadd\nsave 0\npush 7\nme\ndata\nsend 1\nstop\n" {
		t.Errorf("%q", s)
	}
	if s := vm.List(api.Program{}); s != "words 0\nlocals 0\nentry\n" {
		t.Errorf("%q", s)
	}
	if s := vm.List(api.Program{Words: 64, Locals: 32, Entry: []int{-1, 4095, 0}}); s != "words 64\nlocals 32\nentry - 4095 0\n" {
		t.Errorf("%q", s)
	}
	if s := vm.List(api.Program{Code: []api.Instr{{Op: api.IPop, B: 5}, {Op: api.IPop, A: 5}, {Op: api.IPush, B: -1}, {Op: api.IPush}, {Op: api.IRow}, {Op: api.IRow, A: -1}}}); !strings.HasSuffix(s, "\npop 0 5\npop 5\npush 0 -1\npush 0\nrow 0 0\nrow -1 0\n") {
		t.Errorf("%q", s)
	}
}

// 6.8: no other program has a listing.
func TestListRefuses(t *testing.T) {
	for _, p := range unwritable() {
		if s := vm.List(p); s != "" {
			t.Errorf("List(%s) = %q", few(p), s)
		}
	}
}

// 6.8, 6.10: each instruction, with every number near an edge as A, as B, and as both.
func TestListNumbers(t *testing.T) {
	if len(ops) != api.NumOps {
		t.Fatalf("%d names", len(ops))
	}
	for op := range api.NumOps {
		for _, n := range append(edges(), 0) {
			checkListed(t, api.Program{Code: []api.Instr{{Op: op, A: n}, {Op: op, B: n}, {Op: op, A: n, B: n}, {Op: op, A: n, B: 1}, {Op: op, A: -1, B: n}}})
		}
	}
}

// 6.8, 6.10: the largest programs.
func TestListLargest(t *testing.T) {
	checkListed(t, largest())
	p := largest()
	for i := range p.Code {
		p.Code[i] = api.Instr{Op: i % api.NumOps, A: int64(i)}
	}
	checkListed(t, p)
	for i := range p.Code {
		p.Code[i] = api.Instr{Op: api.ILoadX, A: -1 << 63, B: -1 << 63}
	}
	if checkListed(t, p); len(vm.List(p)) <= api.MaxText {
		t.Errorf("%d bytes", len(vm.List(p)))
	}
}

// 6.10: a listing of just MaxText bytes, and one of a byte more.
func TestListAtTheLimit(t *testing.T) {
	for more, last := range []int64{100, 1000} {
		p := api.Program{Code: slices.Repeat([]api.Instr{{Op: api.IPush, A: 1000000000}}, 4094)}
		p.Code = append(p.Code, api.Instr{Op: api.IPush, A: last})
		s := vm.List(p)
		if len(s) != api.MaxText+more {
			t.Fatalf("%d bytes", len(s))
		}
		got, err := vm.Assemble(s)
		if more == 0 && (err != nil || !sameProgram(got, p)) {
			t.Errorf("%s, %v", few(got), err)
		}
		if more == 1 && (placed(t, err) != at{1, 1, api.ErrLong} || !sameProgram(got, api.Program{})) {
			t.Errorf("%s, %v", few(got), err)
		}
	}
}

// 6.8, 6.10: programs that were thrown.
func TestListThrown(t *testing.T) {
	c := chance(69)
	for range 20000 {
		if checkListed(t, c.writable()); t.Failed() {
			return
		}
	}
}

// 6.8, 0.4
func TestListChangesNothing(t *testing.T) {
	p := adder(t)
	if a, b := vm.List(p), vm.List(p); a != b || !sameProgram(p, adder(t)) {
		t.Errorf("%q, %q, %+v", a, b, p)
	}
}
