package codegen_test

import (
	"fmt"
	"math"
	"slices"
	"strings"
	"testing"

	"horizon/api"
	"horizon/codegen"
	"horizon/grammar"
	"horizon/scope"
	"horizon/vm"
)

// begin is what every scene must have; what stands behind it begins at column 14.
const begin = "look 5 end 9 "

func few(s string) string {
	if len(s) > 600 {
		return s[:600] + " .."
	}
	return s
}

func parse(src string) (api.Tree, error) { return grammar.Parse(src) }

func parsed(t *testing.T, src string) api.Tree {
	t.Helper()
	tree, err := parse(src)
	if err != nil {
		t.Fatalf("%s: %v", few(src), err)
	}
	return tree
}

// checked is a text's tree and its scene.
func checked(t *testing.T, src string) (api.Tree, api.Scene) {
	t.Helper()
	tree := parsed(t, src)
	s, err := scope.Check(tree)
	if err != nil {
		t.Fatalf("%s: %v", few(src), err)
	}
	return tree, s
}

// compiled is the programs of a text, by Compile and by Plan, which all pass Verify.
func compiled(t *testing.T, src string) []api.Program {
	t.Helper()
	tree, s := checked(t, src)
	list, err := codegen.Compile(tree, s)
	if err != nil {
		t.Fatalf("%s: %v", few(src), err)
	}
	if len(list) != len(s.Types) {
		t.Fatalf("%s: %d programs of %d types", few(src), len(list), len(s.Types))
	}
	for _, p := range list {
		if e := vm.Verify(p, len(s.Kinds)); e != api.OK {
			t.Fatalf("%s: %s: Verify %d", few(src), vm.List(p), e)
		}
	}
	plan, err := codegen.Plan(src)
	if err != nil || !slices.EqualFunc(plan.Programs, list, sameProgram) {
		t.Fatalf("%s: Plan %v, %v; not %v", few(src), plan.Programs, err, list)
	}
	return list
}

// assembled is a program by its words, its locals, its entries and its instructions, separated by commas.
func assembled(t *testing.T, words, locals int, entry, code string) api.Program {
	t.Helper()
	p, err := vm.Assemble(fmt.Sprintf("words %d\nlocals %d\nentry %s\n%s", words, locals, entry, strings.ReplaceAll(code, ",", "\n")))
	if err != nil {
		t.Fatalf("%s: %v", few(code), err)
	}
	return p
}

// sameProgram takes an empty list and none for the same.
func sameProgram(a, b api.Program) bool {
	return a.Words == b.Words && a.Locals == b.Locals && slices.Equal(a.Code, b.Code) && slices.Equal(a.Entry, b.Entry)
}

func isNoProgram(p api.Program) bool {
	return p.Words == 0 && p.Locals == 0 && len(p.Code) == 0 && len(p.Entry) == 0
}

func sameState(a, b api.State) bool {
	return slices.Equal(a.Words, b.Words) && a.Dice == b.Dice && a.Sent == b.Sent
}

func sameEffect(a, b api.Effect) bool {
	return a.Code == b.Code && sameState(a.State, b.State) && slices.Equal(a.Out, b.Out) && a.Used == b.Used
}

// listing is a program that is told.
func listing(p api.Program) string {
	return few(strings.ReplaceAll(vm.List(p), "\n", ", "))
}

// at is a fault at a place of a text.
type at struct {
	line, col int
	code      api.Errno
}

// placed is what a *api.PosError tells, which must be one itself, with an Errno in it.
func placed(t *testing.T, err error) at {
	t.Helper()
	p, ok := err.(*api.PosError)
	if !ok {
		t.Fatalf("%T (%v) is no PosError", err, err)
	}
	code, ok := p.Err.(api.Errno)
	if !ok {
		t.Fatalf("%T (%v) is no Errno", p.Err, p.Err)
	}
	return at{p.Line, p.Col, code}
}

// unmarked is a text without its mark (@), and the mark's line and column.
func unmarked(s string) (src string, line, col int) {
	ahead, behind, found := strings.Cut(s, "@")
	if !found {
		return s, 0, 0
	}
	return ahead + behind, 1 + strings.Count(ahead, "\n"), len(ahead) - strings.LastIndex(ahead, "\n")
}

func copied(t api.Tree) api.Tree {
	nodes := slices.Clone(t.Nodes)
	for i := range nodes {
		nodes[i].Kids = slices.Clone(nodes[i].Kids)
	}
	return api.Tree{Nodes: nodes}
}

// repeat is a text with $ standing for 0, 1, 2 ..
func repeat(count int, text string) string {
	var s strings.Builder
	for i := range count {
		s.WriteString(strings.ReplaceAll(text, "$", fmt.Sprint(i)))
	}
	return s.String()
}

// edges are numbers at which something may turn.
func edges() []int64 {
	l := []int64{math.MinInt64, math.MinInt64 + 1, math.MaxInt64 - 1, math.MaxInt64, 1 << 32, -1 << 32, 1<<62 + 1}
	for _, n := range []int64{0, 1, 2, 31, 32, 63, 64} {
		l = append(l, n, n+1, -n, -n-1)
	}
	slices.Sort(l)
	return slices.Compact(l)
}

// chance is a row of numbers that look thrown, and are the same at every run.
type chance uint64

func (c *chance) next() uint64 {
	*c = *c*6364136223846793005 + 1442695040888963407
	x := uint64(*c)
	x ^= x >> 32
	return x * 11400714819323198485
}

func (c *chance) below(n int) int { return int(c.next() >> 33 % uint64(n)) }

// number is small, or at an edge, or any.
func (c *chance) number() int64 {
	switch c.below(4) {
	case 0, 1:
		return int64(c.below(9) - 3)
	case 2:
		l := edges()
		return l[c.below(len(l))]
	}
	return int64(c.next()) >> c.below(64)
}

func pick[T any](c *chance, l []T) T { return l[c.below(len(l))] }

// calling is a call that a program may be run on.
func (c *chance) calling(words, kinds int) api.Call {
	parts := 1 + c.below(4)
	e := api.Event{Key: api.Key{Time: uint64(c.number()), Src: int(c.number()), Seq: c.next()}, Dst: c.below(parts), Kind: c.below(kinds), Data: c.number()}
	s := api.State{Dice: c.next(), Sent: uint64(c.number())}
	for range words {
		s.Words = append(s.Words, c.number())
	}
	return api.Call{Event: e, State: s, Look: uint64(c.below(3)), Parts: parts, Fuel: api.MaxFuel}
}
