package codegen_test

import (
	"slices"
	"testing"

	"horizon/api"
	"horizon/codegen"
	"horizon/lexer"
	"horizon/scope"
	"horizon/vm"
)

// 7.1, 7.2, 7.3, 7.4: thrown scenarios have the programs that the tables of the chapter say, instruction by instruction.
func TestThrownCode(t *testing.T) {
	c := chance(71)
	seen := map[int]int{}
	for range 600 {
		src := c.scenario()
		tree, s := checked(t, src)
		for i, p := range compiled(t, src) {
			if want := spelled(tree, s, s.Types[i]); !sameProgram(p, want) {
				t.Fatalf("%s\n%s\nnot %s", src, listing(p), listing(want))
			}
			for _, in := range p.Code {
				seen[in.Op]++
			}
		}
	}
	for op := range api.NumOps {
		if op != api.IPop && seen[op] < 100 {
			t.Errorf("instruction %d stood there %d times", op, seen[op])
		}
	}
}

// 7.6: a thrown handler does on the machine what it means on the tree, with all fuel and with every less.
func TestThrownHandlers(t *testing.T) {
	c := chance(76)
	seen := map[api.Errno]int{}
	for range 600 {
		src := c.scenario()
		tree, s := checked(t, src)
		for i, p := range compiled(t, src) {
			call := c.calling(p.Words, len(s.Kinds))
			e := checkRun(t, src, tree, s, s.Types[i], p, call)
			seen[e.Code]++
			for fuel := range min(e.Used+2, 100) {
				call.Fuel = fuel
				checkRun(t, src, tree, s, s.Types[i], p, call)
			}
			call.Fuel = max(0, e.Used-1)
			checkRun(t, src, tree, s, s.Types[i], p, call)
			call.Fuel = e.Used
			checkRun(t, src, tree, s, s.Types[i], p, call)
		}
	}
	for code := api.FaultFuel; code <= api.FaultUser; code++ {
		if seen[code] < 10 {
			t.Errorf("%d came up %d times", code, seen[code])
		}
	}
	if seen[api.OK] < 500 {
		t.Errorf("OK came up %d times", seen[api.OK])
	}
}

// checkRun holds Run of a program against what its type means.
func checkRun(t *testing.T, src string, tree api.Tree, s api.Scene, of api.Type, p api.Program, call api.Call) api.Effect {
	t.Helper()
	got, want := vm.Run(p, call), acted(tree, s, of, call)
	if !sameEffect(got, want) {
		t.Fatalf("%s\n%s on %+v:\n%+v, not\n%+v", src, listing(p), call, got, want)
	}
	return got
}

// 7.7, 7.8: the programs of thrown scenarios are tidied as the chapter says, and do the same.
func TestThrownTidying(t *testing.T) {
	c := chance(77)
	shorter := 0
	for range 600 {
		src := c.scenario()
		for _, p := range compiled(t, src) {
			if q := checkTidy(t, p); len(q.Code) < len(p.Code) {
				shorter++
			}
			checkSameRuns(t, &c, p, 3)
		}
	}
	if shorter < 500 {
		t.Errorf("%d programs became shorter", shorter)
	}
}

// 7.4, 7.5: a thrown text with something wrong in it has the error that layer 4 or layer 5 tells, as it stands.
func TestThrownFaults(t *testing.T) {
	c := chance(75)
	seen := map[string]int{}
	for range 600 {
		src := c.spoiled(c.scenario())
		plan, err := codegen.Plan(src)
		seen[checkFault(t, src, plan, err)]++
	}
	if seen["text"] < 100 || seen["scene"] < 100 || seen["none"] < 30 {
		t.Errorf("%v", seen)
	}
}

// spoiled is a text with one of its words changed: a name for a name, as a rule.
func (c *chance) spoiled(src string) string {
	l, _ := lexer.Scan(src)
	var names []int
	for i, token := range l {
		if token.Kind == api.TName {
			names = append(names, i)
		}
	}
	words := []string{"a", "x", "k", "T", "A", "o", "p", "r", "v", "zz"}
	if c.below(3) == 0 {
		words = []string{"{", "}", "let", "(", "9223372036854775808", "@", "if", ""}
	}
	l[pick(c, names)].Text = pick(c, words)
	s := ""
	for _, token := range l {
		s += token.Text + " "
	}
	return s
}

func checkFault(t *testing.T, src string, plan api.Plan, err error) string {
	t.Helper()
	tree, wrong := parse(src)
	which := "text"
	var s api.Scene
	if wrong == nil {
		s, wrong = scope.Check(tree)
		which = "scene"
		list, fault := codegen.Compile(tree, s)
		if !sameError(fault, wrong) || wrong != nil && len(list) > 0 {
			t.Fatalf("%s: Compile %v, not %v", src, fault, wrong)
		}
	}
	if !sameError(err, wrong) {
		t.Fatalf("%s: %v, not %v", src, err, wrong)
	}
	if wrong == nil {
		return "none"
	}
	if !isNoPlan(plan) {
		t.Fatalf("%s: a plan beside an error: %+v", src, plan)
	}
	return which
}

func isNoPlan(p api.Plan) bool {
	return p.Kinds == 0 && len(p.Programs)+len(p.Parts)+len(p.Starts) == 0 && p.Seed == 0 && p.Look == 0 && p.End == 0 && p.Budget == 0 && p.Fuel == 0
}

// sameError holds errors of layers 3 to 7 against one another, with all that is in them.
func sameError(a, b error) bool {
	switch x := a.(type) {
	case *api.PosError:
		y, ok := b.(*api.PosError)
		return ok && x.Line == y.Line && x.Col == y.Col && sameError(x.Err, y.Err)
	case *api.ManyError:
		y, ok := b.(*api.ManyError)
		return ok && slices.EqualFunc(x.List, y.List, sameError)
	}
	return a == b
}
