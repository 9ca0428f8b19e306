package codegen_test

import (
	"math"
	"reflect"
	"slices"
	"testing"

	"horizon/api"
	"horizon/codegen"
	"horizon/scope"
)

// 7.5: example 9 of the chapter.
func TestPlanExample(t *testing.T) {
	p, err := codegen.Plan("look 5 end 9")
	if err != nil || p.Kinds != 0 || len(p.Programs)+len(p.Parts)+len(p.Starts) != 0 || p.Look != 5 || p.End != 9 || p.Budget != 1000 || p.Fuel != 1000 || p.Seed != 0 {
		t.Errorf("%+v, %v", p, err)
	}
	p, err = codegen.Plan("look")
	if err == nil || placed(t, err) != (at{1, 5, api.ErrEnds}) || !isNoPlan(p) {
		t.Errorf("%+v, %v", p, err)
	}
}

// 7.5: the plan of a scenario with something of everything.
func TestPlan(t *testing.T) {
	got, err := codegen.Plan(full)
	if err != nil {
		t.Fatal(err)
	}
	want := api.Plan{
		Kinds: 2,
		Programs: []api.Program{
			assembled(t, 3, 0, "0 3", "data, save 0, stop, stop"),
			assembled(t, 0, 0, "- 0", "push 1, fail, stop"),
		},
		Parts:  []api.Part{{Words: []int64{9, 5, 5}}, {Words: []int64{1, 5, 5}}, {Words: []int64{1, 5, 5}}, {Program: 1}},
		Starts: []api.Start{{Time: 3, Data: 1}, {Time: math.MaxUint64, Dst: 1, Kind: 1, Data: 2}, {Time: math.MaxUint64, Dst: 2, Kind: 1, Data: 2}},
		Seed:   3, Look: 5, End: 9, Budget: 7, Fuel: 8,
	}
	if !samePlan(got, want) {
		t.Errorf("%+v, not %+v", got, want)
	}
}

// samePlan takes an empty list and none for the same.
func samePlan(a, b api.Plan) bool {
	samePart := func(a, b api.Part) bool { return a.Program == b.Program && slices.Equal(a.Words, b.Words) }
	same := slices.EqualFunc(a.Programs, b.Programs, sameProgram) && slices.EqualFunc(a.Parts, b.Parts, samePart) && slices.Equal(a.Starts, b.Starts)
	a.Programs, a.Parts, a.Starts = nil, nil, nil
	b.Programs, b.Parts, b.Starts = nil, nil, nil
	return same && reflect.DeepEqual(a, b)
}

// 7.5: thrown scenarios: what is not compiled is the scene's.
func TestThrownPlans(t *testing.T) {
	c := chance(750)
	for range 200 {
		src := c.scenario() + " start k(3) to p at 5 seed 4 budget 2"
		tree, s := checked(t, src)
		list, _ := codegen.Compile(tree, s)
		want := api.Plan{Kinds: len(s.Kinds), Programs: list, Parts: s.Parts, Starts: s.Starts, Seed: s.Seed, Look: s.Look, End: s.End, Budget: s.Budget, Fuel: s.Fuel}
		if got, err := codegen.Plan(src); err != nil || !samePlan(got, want) {
			t.Fatalf("%s: %+v, %v, not %+v", src, got, err, want)
		}
	}
}

// 7.5: the errors of a text, its scene and its handlers, each as it stands, in this order.
func TestPlanErrors(t *testing.T) {
	large := "kind k type T { on k(x) { " + stops(4096) + "} } "
	for _, src := range []string{"@", "look 5 end 9 const", "look 5 look @", large + "}", large + "(", large + "99999999999999999999"} {
		_, want := parse(src)
		if p, err := codegen.Plan(src); want == nil || !sameError(err, want) || !isNoPlan(p) {
			t.Errorf("%s: %v, not %v", few(src), err, want)
		}
	}
	for _, src := range []string{"", "look 5 ", "end 9 look 0 ", large, large + "look 5 end 9 const A = A"} {
		_, want := scope.Check(parsed(t, src))
		if p, err := codegen.Plan(src); want == nil || !sameError(err, want) || !isNoPlan(p) {
			t.Errorf("%s: %v, not %v", few(src), err, want)
		}
	}
	p, err := codegen.Plan(begin + large)
	if err == nil || placed(t, err) != (at{1, 30, api.ErrBig}) || !isNoPlan(p) {
		t.Errorf("%v", err)
	}
}

// 0.3, 0.4: what Compile and Plan answer is new memory: who writes into it, and behind its end, changes nothing else.
func TestAnswersAreNew(t *testing.T) {
	tree, s := checked(t, full)
	treeBefore := copied(tree)
	_, sceneBefore := checked(t, full)
	list, err := codegen.Compile(tree, s)
	if err != nil {
		t.Fatal(err)
	}
	first, _ := codegen.Plan(full)
	second, _ := codegen.Plan(full)
	want, _ := codegen.Plan(full)
	for i := range list {
		scribbleProgram(list[i])
		if !slices.EqualFunc(list[i+1:], want.Programs[i+1:], sameProgram) {
			t.Errorf("program %d lies in another one", i)
		}
	}
	if !reflect.DeepEqual(tree, treeBefore) || !reflect.DeepEqual(s, sceneBefore) {
		t.Errorf("what was handed in was changed")
	}
	for i, p := range first.Programs {
		scribbleProgram(p)
		if !slices.EqualFunc(first.Programs[i+1:], want.Programs[i+1:], sameProgram) {
			t.Errorf("program %d lies in another one", i)
		}
	}
	for i, p := range first.Parts {
		scribble(p.Words)
		for j, other := range first.Parts[i+1:] {
			if !slices.Equal(other.Words, want.Parts[i+1+j].Words) {
				t.Errorf("part %d lies in part %d", i, i+1+j)
			}
		}
	}
	scribble(first.Starts)
	scribble(first.Parts)
	scribble(first.Programs)
	if !samePlan(second, want) {
		t.Errorf("one plan lies in another")
	}
}

// scribble writes zeros over a list, behind its end too.
func scribble[T any](l []T) { clear(l[:cap(l)]) }

func scribbleProgram(p api.Program) {
	for i := range p.Code[:cap(p.Code)] {
		p.Code[:cap(p.Code)][i] = api.Instr{Op: -7, A: -7, B: -7}
	}
	for i := range p.Entry[:cap(p.Entry)] {
		p.Entry[:cap(p.Entry)][i] = -7
	}
}
