package codegen_test

import (
	"slices"
	"testing"

	"horizon/api"
	"horizon/codegen"
	"horizon/vm"
)

// checkTidy holds Tidy against the chapter's round, done slowly, and against 7.8 as far as no run is asked.
func checkTidy(t *testing.T, p api.Program) api.Program {
	t.Helper()
	kinds := len(p.Entry)
	before := another(p)
	got, code := codegen.Tidy(p, kinds)
	if code != api.OK {
		t.Fatalf("%s: %d", listing(p), code)
	}
	if !sameProgram(p, before) {
		t.Fatalf("%s was changed to %s", listing(before), listing(p))
	}
	if want := tidied(p); !sameProgram(got, want) {
		t.Fatalf("%s: %s, not %s", listing(p), listing(got), listing(want))
	}
	if e := vm.Verify(got, kinds); e != api.OK {
		t.Fatalf("%s: %s: Verify %d", listing(p), listing(got), e)
	}
	if again, e := codegen.Tidy(got, kinds); e != api.OK || !sameProgram(again, got) {
		t.Fatalf("%s: %s, tidied again %s", listing(p), listing(got), listing(again))
	}
	return got
}

// checkSameRuns holds runs of a program against those of its tidied one.
func checkSameRuns(t *testing.T, c *chance, p api.Program, times int) {
	t.Helper()
	q, _ := codegen.Tidy(p, len(p.Entry))
	for range times {
		call := c.calling(p.Words, len(p.Entry))
		checkSameRun(t, p, q, call)
	}
}

func checkSameRun(t *testing.T, p, q api.Program, call api.Call) api.Errno {
	t.Helper()
	call.Fuel = min(call.Fuel, 300)
	a := vm.Run(p, call)
	if a.Code == api.FaultFuel {
		return a.Code
	}
	// The fuel that was just enough is enough.
	call.Fuel = a.Used
	b := vm.Run(q, call)
	if a.Code != b.Code || !sameState(a.State, b.State) || !slices.Equal(a.Out, b.Out) || b.Used > a.Used {
		t.Fatalf("%s: %+v, tidied %s: %+v", listing(p), a, listing(q), b)
	}
	return a.Code
}

// shorter is a program and what Tidy makes of it; each has its entries ahead of its code.
type shorter struct{ entry, code, tidyEntry, tidyCode string }

func checkShorter(t *testing.T, list []shorter) {
	t.Helper()
	for _, s := range list {
		p := assembled(t, 2, 2, s.entry, s.code)
		want := assembled(t, 2, 2, s.tidyEntry, s.tidyCode)
		if got := checkTidy(t, p); !sameProgram(got, want) {
			t.Errorf("%s: %s, not %s", s.code, listing(got), listing(want))
		}
	}
}

// 7.7: the examples 6 and 7 of the chapter.
func TestTidyExamples(t *testing.T) {
	checkShorter(t, []shorter{
		{"0", "data, zero 6, push 1, put 0, jump 6, jump 0, push 2, put 0, stop", "0", "data, zero 4, push 1, put 0, push 2, put 0, stop"},
		{"0", "push 2, push 3, add, push 4, mul, save 0, stop", "0", "push 20, save 0, stop"},
		{"0", "push 1, push 0, div, save 0, stop", "0", "push 1, push 0, div, save 0, stop"},
		{"0", "jump 0", "0", "jump 0"},
		{"0", "push 0, zero 4, push 9, fail, stop", "0", "stop"},
	})
}

// 7.7, 1: shortcuts, from jump to jump, for jumps, IZero and entries; not for ever.
func TestShortcuts(t *testing.T) {
	checkShorter(t, []shorter{
		{"0", "data, zero 4, push 1, fail, jump 6, stop, jump 7, data, fail", "0", "data, zero 4, push 1, fail, data, fail"},
		{"2 4 0", "data, jump 3, jump 4, fail, jump 5, me, jump 3", "2 2 0", "data, fail, me, jump 1"},
		{"0 1 2 3 -", "jump 1, jump 2, jump 3, stop", "0 0 0 0 -", "stop"},
		// A jump to an IStop is one.
		{"0", "data, zero 3, jump 5, push 1, fail, stop", "0", "data, zero 3, stop, push 1, fail"},
		// Jumps that go round for ever, and what leads to them, stay as they are.
		{"0", "me, zero 4, jump 3, jump 2, jump 2", "0", "me, zero 3, jump 2, jump 2"},
		{"0", "me, zero 3, stop, jump 4, jump 3", "0", "me, zero 3, stop, jump 3"},
		{"2", "jump 1, jump 2, jump 0", "0", "jump 0"},
		{"0 3", "me, zero 6, stop, jump 5, jump 3, jump 4, jump 3", "0 3", "me, zero 6, stop, jump 5, jump 3, jump 4, jump 3"},
	})
}

// 7.7, 2: what is not reached goes, and jumps to the next place, all at once.
func TestLeavingOut(t *testing.T) {
	checkShorter(t, []shorter{
		{"-", "stop", "-", ""},
		{"", "stop, data, jump 0", "", ""},
		{"- 3 -", "data, fail, stop, me, fail, now, stop", "- 0 -", "me, fail"},
		{"0", "data, zero 3, jump 3, me, zero 6, jump 6, stop", "0", "data, zero 2, me, zero 5, stop, stop"},
		{"0", "jump 2, stop, data, jump 5, fail, zero 7, jump 7, stop", "0", "data, zero 3, stop, stop"},
		// Two that stand one behind the other go at once; who went to them goes to the first one behind them that stays.
		{"0 2", "data, zero 2, jump 3, jump 2", "0 2", "data, zero 2, jump 2"},
		{"0 2 3", "data, zero 3, jump 3, jump 4, jump 2", "0 2 2", "data, zero 2, jump 2"},
	})
}

// 7.7, 3: constants are computed place by place, where nobody jumps in between.
func TestConstants(t *testing.T) {
	checkShorter(t, []shorter{
		{"0", "push 5, pop, stop", "0", "stop"},
		{"0", "push 0, push 5, pop, fail", "0", "push 0, fail"},
		{"0", "push 7, neg, flip, bool, not, save 0, stop", "0", "push 0, save 0, stop"},
		{"0", "push 3, zero 4, data, pop, stop", "0", "data, pop, stop"},
		{"0", "push 3, zero 4, data, fail, push 1, fail", "0", "data, fail"},
		{"0", "push 0, zero 4, data, fail, push 1, fail", "0", "push 1, fail"},
		{"0", "push 1, push 2, push 3, add, mul, fail", "0", "push 5, fail"},
		{"0", "push 8, push 2, data, add, mul, fail", "0", "push 8, push 2, data, add, mul, fail"},
		// What fails stays, and what is around it is computed.
		{"0", "push 3, push 4, add, push 1, neg, shl, save 0, stop", "0", "push 7, push -1, shl, save 0, stop"},
		{"0", "push 3, push 2, push 2, sub, mod, fail", "0", "push 3, push 0, mod, fail"},
		// Places to which one comes otherwise are not free.
		{"0", "data, zero 4, push 6, jump 5, push 7, neg, fail", "0", "data, zero 4, push 6, jump 5, push 7, neg, fail"},
		{"0", "push 6, data, zero 4, neg, neg, fail", "0", "push 6, data, zero 4, neg, neg, fail"},
		{"0", "push 6, push 7, data, zero 5, neg, add, fail", "0", "push 6, push 7, data, zero 5, neg, add, fail"},
		// Throws, indices and sends are not computed.
		{"0", "push 6, roll, fail", "0", "push 6, roll, fail"},
		{"0", "push 6, wait, fail", "0", "push 6, wait, fail"},
		{"0", "push 1, loadx 0 2, fail", "0", "push 1, loadx 0 2, fail"},
		{"0", "push 1, row 0 2, fail", "0", "push 1, row 0 2, fail"},
		{"0", "push 1, push 2, savex 0 2, stop", "0", "push 1, push 2, savex 0 2, stop"},
		{"0", "push 1, put 0, get 0, neg, fail", "0", "push 1, put 0, get 0, neg, fail"},
		// One loop, whose condition is known, has no end; one that is left at once goes.
		{"0", "push 1, zero 5, data, save 0, jump 0, stop", "0", "data, save 0, jump 0"},
		{"0", "push 0, zero 5, data, save 0, jump 0, stop", "0", "stop"},
	})
}
