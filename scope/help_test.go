package scope_test

import (
	"errors"
	"slices"
	"strconv"
	"strings"
	"testing"

	"horizon/api"
	"horizon/grammar"
	"horizon/scope"
)

// begin is what every scene must have; what stands behind it begins at column 14.
const begin = "look 5 end 9 "

func parsed(t *testing.T, src string) api.Tree {
	t.Helper()
	tree, err := grammar.Parse(src)
	if err != nil {
		t.Fatalf("%s: %v", few(src), err)
	}
	return tree
}

func few(s string) string {
	if len(s) > 300 {
		return s[:300] + " .."
	}
	return s
}

// at is a fault at a place of a text.
type at struct {
	line, col int
	code      api.Errno
}

// placed is what a *api.PosError tells, which must be one itself, with an Errno in it.
func placed(t *testing.T, err error) at {
	t.Helper()
	p, ok := err.(*api.PosError)
	if !ok {
		t.Fatalf("%T (%v) is no PosError", err, err)
	}
	code, ok := p.Err.(api.Errno)
	if !ok {
		t.Fatalf("%T (%v) is no Errno", p.Err, p.Err)
	}
	return at{p.Line, p.Col, code}
}

// checked is the scene of a tree, or its faults.
func checked(t *testing.T, tree api.Tree) (api.Scene, []at) {
	t.Helper()
	s, err := scope.Check(tree)
	if err == nil {
		return s, nil
	}
	if !isZero(s) {
		t.Fatalf("a scene beside an error: %+v", s)
	}
	many, ok := err.(*api.ManyError)
	if !ok || len(many.List) == 0 {
		t.Fatalf("%T (%v) tells no faults", err, err)
	}
	var list []at
	for _, e := range many.List {
		list = append(list, placed(t, e))
	}
	return s, list
}

func isZero(s api.Scene) bool {
	return len(s.Consts)+len(s.Kinds)+len(s.Types)+len(s.Places)+len(s.Parts)+len(s.Starts) == 0 &&
		s.Seed == 0 && s.Look == 0 && s.End == 0 && s.Budget == 0 && s.Fuel == 0
}

func scene(t *testing.T, src string) api.Scene {
	t.Helper()
	s, l := checked(t, parsed(t, src))
	if l != nil {
		t.Fatalf("%s: %v", few(src), l)
	}
	return s
}

// checkMarked holds Check against texts behind begin; where a fault is wanted, @ and its number stand ahead of its token.
func checkMarked(t *testing.T, list []string) {
	t.Helper()
	for _, marked := range list {
		src, want := unmarked(begin + marked)
		if _, got := checked(t, parsed(t, src)); !slices.Equal(got, want) {
			t.Errorf("%s: %v, not %v", few(marked), got, want)
		}
	}
}

// unmarked is a text of one line without its marks, and what they say.
func unmarked(s string) (src string, want []at) {
	pieces := strings.Split(s, "@")
	src = pieces[0]
	for _, piece := range pieces[1:] {
		number, rest, _ := strings.Cut(piece, " ")
		code, _ := strconv.Atoi(number)
		want = append(want, at{1, len(src) + 1, api.Errno(code)})
		src += rest
	}
	return src, want
}

func copied(t api.Tree) api.Tree {
	nodes := slices.Clone(t.Nodes)
	for i := range nodes {
		nodes[i].Kids = slices.Clone(nodes[i].Kids)
	}
	return api.Tree{Nodes: nodes}
}

// repeat is a text with $ standing for 0, 1, 2 ..
func repeat(count int, text string) string {
	s := ""
	for i := range count {
		for _, r := range text {
			if r == '$' {
				s += strconv.Itoa(i)
			} else {
				s += string(r)
			}
		}
		s += "\n"
	}
	return s
}

// badTrees are no trees, each with what grammar says of it.
func badTrees(t *testing.T) map[api.Errno]api.Tree {
	t.Helper()
	deep := parsed(t, "const A = 1")
	for range api.MaxDeep + 1 {
		deep.Nodes = slices.Insert(deep.Nodes, 2, api.Node{Kind: api.NUnary, Op: api.OpSub})
	}
	for i := range deep.Nodes {
		deep.Nodes[i].Kids = nil
		if i+1 < len(deep.Nodes) {
			deep.Nodes[i].Kids = []int{i + 1}
		}
	}
	long := parsed(t, "")
	for range api.MaxTokens/2 + 1 {
		long.Nodes[0].Kids = append(long.Nodes[0].Kids, len(long.Nodes))
		long.Nodes = append(long.Nodes, api.Node{Kind: api.NSetting, Op: api.TLook})
	}
	bad := map[api.Errno]api.Tree{
		api.ErrTree:   {},
		api.ErrNodes:  {Nodes: make([]api.Node, api.MaxNodes+1)},
		api.ErrDeep:   deep,
		api.ErrTokens: long,
	}
	for code, tree := range bad {
		if got := grammar.Valid(tree); got != code {
			t.Fatalf("a tree of %d nodes: %d, not %d", len(tree.Nodes), got, code)
		}
	}
	return bad
}

// isPlain tells whether an error is an Errno and nothing around it.
func isPlain(err error, code api.Errno) bool {
	plain, ok := err.(api.Errno)
	return ok && plain == code && errors.Is(err, code)
}

// chance is a row of numbers that look thrown, and are the same at every run.
type chance uint64

func (c *chance) below(n int) int {
	*c = *c*6364136223846793005 + 1442695040888963407
	return int(uint64(*c) >> 33 % uint64(n))
}
