package codegen

import (
	"slices"

	"horizon/api"
	"horizon/vm"
)

// tidier has a program that passes vm.Verify, ahead of every step and behind it.
type tidier struct{ api.Program }

// round tells whether it changed anything.
func (t *tidier) round() bool {
	code, entry := slices.Clone(t.Code), slices.Clone(t.Entry)
	t.shorten()
	t.dropUnreached()
	t.dropSteps()
	t.fold()
	return !slices.Equal(code, t.Code) || !slices.Equal(entry, t.Entry)
}

func jumps(in api.Instr) bool { return in.Op == api.IJump || in.Op == api.IZero }

// lead makes every number of a place another one.
func (t *tidier) lead(to []int) {
	for at := range t.Code {
		if jumps(t.Code[at]) {
			t.Code[at].A = int64(to[t.Code[at].A])
		}
	}
	for kind, at := range t.Entry {
		if at != -1 {
			t.Entry[kind] = to[at]
		}
	}
}

func (t *tidier) shorten() {
	t.lead(ends(t.Code))
	for at, in := range t.Code {
		if in.Op == api.IJump && t.Code[in.A].Op == api.IStop {
			t.Code[at] = api.Instr{Op: api.IStop}
		}
	}
}

// ends has for each place where one comes to from jump to jump.
func ends(code []api.Instr) []int {
	to := make([]int, len(code))
	for at, in := range code {
		to[at] = at
		if in.Op == api.IJump {
			to[at] = int(in.A)
		}
	}
	// Each time one goes at least twice as far. Who is among jumps after as many steps as there are places stays there for ever.
	for far := 1; far < len(code); far *= 2 {
		for at := range to {
			to[at] = to[to[at]]
		}
	}
	for at := range to {
		if code[to[at]].Op == api.IJump {
			to[at] = at
		}
	}
	return to
}

func (t *tidier) dropUnreached() {
	depths, _ := vm.Depths(t.Program, len(t.Entry))
	t.drop(func(at int) bool { return depths[at] == -1 })
}

func (t *tidier) dropSteps() {
	t.drop(func(at int) bool { return t.Code[at].Op == api.IJump && t.Code[at].A == int64(at+1) })
}

// drop leaves places out, all at once.
func (t *tidier) drop(goes func(at int) bool) {
	left := make([]api.Instr, 0, len(t.Code))
	to := make([]int, len(t.Code))
	for at, in := range t.Code {
		// Of a place that goes, this is the next one that stays.
		to[at] = len(left)
		if !goes(at) {
			left = append(left, in)
		}
	}
	t.Code = left
	t.lead(to)
}
