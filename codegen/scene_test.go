package codegen_test

import (
	"errors"
	"reflect"
	"slices"
	"strings"
	"testing"

	"horizon/api"
	"horizon/codegen"
	"horizon/grammar"
	"horizon/scope"
)

// full is a scenario with something of everything.
const full = `look 5 end 9 seed 3 budget 7 fuel 8
const A = 1 const B = 2
kind k, m
type T { var v = 1 var r[2] = 5 on k(x) { v = x } on m(y) { } }
type U { on m(x) { fail 1 } }
place p : T (v = 9) place q[2] : T place u : U
start k(1) to p at 3 start m(2) to q at 18446744073709551615`

// badTrees are no trees, each with what grammar says of it.
func badTrees(t *testing.T) map[api.Errno]api.Tree {
	t.Helper()
	deep := parsed(t, "const A = 1")
	for range api.MaxDeep + 1 {
		deep.Nodes = slices.Insert(deep.Nodes, 2, api.Node{Kind: api.NUnary, Op: api.OpSub})
	}
	for i := range deep.Nodes {
		deep.Nodes[i].Kids = nil
		if i+1 < len(deep.Nodes) {
			deep.Nodes[i].Kids = []int{i + 1}
		}
	}
	long := parsed(t, "")
	for range api.MaxTokens/2 + 1 {
		long.Nodes[0].Kids = append(long.Nodes[0].Kids, len(long.Nodes))
		long.Nodes = append(long.Nodes, api.Node{Kind: api.NSetting, Op: api.TLook})
	}
	bad := map[api.Errno]api.Tree{
		api.ErrTree:   {},
		api.ErrNodes:  {Nodes: make([]api.Node, api.MaxNodes+1)},
		api.ErrDeep:   deep,
		api.ErrTokens: long,
	}
	for code, tree := range bad {
		if got := grammar.Valid(tree); got != code {
			t.Fatalf("a tree of %d nodes: %d, not %d", len(tree.Nodes), got, code)
		}
	}
	return bad
}

func checkRefused(t *testing.T, what string, tree api.Tree, s api.Scene, want error) {
	t.Helper()
	list, err := codegen.Compile(tree, s)
	if err == nil || !sameError(err, want) || len(list) != 0 {
		t.Errorf("%s: %v, %v, not %v", what, list, err, want)
	}
}

// 7.4: the error of grammar.Valid as an Errno, whatever the scene.
func TestNoTree(t *testing.T) {
	_, s := checked(t, full)
	for code, tree := range badTrees(t) {
		checkRefused(t, code.Error(), tree, s, code)
		checkRefused(t, code.Error(), tree, api.Scene{}, code)
	}
	// What would be a fault for layer 5 is none in what is no tree.
	tree := parsed(t, "look 0 const A = B")
	tree.Nodes = tree.Nodes[:len(tree.Nodes)-1]
	checkRefused(t, "a node is missing", tree, s, api.ErrTree)
}

// 7.4: else the error of scope.Check as it stands, whatever the scene.
func TestFaultyScene(t *testing.T) {
	_, s := checked(t, full)
	for _, src := range []string{"", "look 5", "look 5 end 9 const A = A", full + " kind k", strings.Replace(full, "v = x", "w = y z = q", 1)} {
		tree := parsed(t, src)
		_, want := scope.Check(tree)
		var many *api.ManyError
		if !errors.As(want, &many) {
			t.Fatalf("%s: %v", src, want)
		}
		checkRefused(t, src, tree, s, want)
		checkRefused(t, src, tree, api.Scene{}, want)
	}
}

// 7.4: else ErrTree, if the scene is another one: in any number, any text, any list's length. Ahead of a handler that is too large.
func TestAnotherScene(t *testing.T) {
	for _, src := range []string{full, begin, begin + "kind k type T { on k(x) { " + stops(4096) + "} }"} {
		tree, s := checked(t, src)
		count := 0
		each(reflect.ValueOf(&s).Elem(), func() {
			count++
			checkRefused(t, "another scene", tree, s, api.ErrTree)
		})
		if src == full && count < 100 {
			t.Errorf("%d scenes were tried", count)
		}
		if same, _ := scope.Check(tree); !reflect.DeepEqual(s, same) {
			t.Errorf("the scene was not left as it was")
		}
	}
}

// each makes one change after the other, calls see and takes it back.
func each(v reflect.Value, see func()) {
	old := reflect.New(v.Type()).Elem()
	old.Set(v)
	changed := func(x reflect.Value) {
		v.Set(x)
		see()
		v.Set(old)
	}
	switch v.Kind() {
	case reflect.Int, reflect.Int64:
		for _, d := range []int64{1, -1, 1 << 40} {
			changed(reflect.ValueOf(v.Int() + d).Convert(v.Type()))
		}
	case reflect.Uint64:
		changed(reflect.ValueOf(v.Uint() + 1))
		changed(reflect.ValueOf(v.Uint() - 1))
	case reflect.String:
		changed(reflect.ValueOf(v.String() + "x"))
		changed(reflect.ValueOf(""))
	case reflect.Slice:
		changed(reflect.Append(v.Slice3(0, v.Len(), v.Len()), reflect.Zero(v.Type().Elem())))
		if v.Len() > 0 {
			changed(v.Slice(0, v.Len()-1))
			changed(reflect.Zero(v.Type()))
		}
		for i := range v.Len() {
			each(v.Index(i), see)
		}
	case reflect.Struct:
		for i := range v.NumField() {
			each(v.Field(i), see)
		}
	default:
		panic(v.Kind())
	}
}

// 7.4: an empty list of the scene may be nil or not.
func TestEmptyLists(t *testing.T) {
	for _, src := range []string{begin, begin + "type T { }", begin + "kind k type T { on k(x) { } } place p : T", full} {
		tree, s := checked(t, src)
		want, err := codegen.Compile(tree, s)
		if err != nil {
			t.Fatalf("%s: %v", src, err)
		}
		for _, empty := range []bool{true, false} {
			emptied(reflect.ValueOf(&s).Elem(), empty)
			if got, err := codegen.Compile(tree, s); err != nil || !slices.EqualFunc(got, want, sameProgram) {
				t.Errorf("%s, with empty lists (%v): %v, %v", src, empty, got, err)
			}
		}
	}
}

// emptied makes every empty list nil, or one that is not.
func emptied(v reflect.Value, made bool) {
	switch v.Kind() {
	case reflect.Slice:
		if v.Len() == 0 && made {
			v.Set(reflect.MakeSlice(v.Type(), 0, 3))
		} else if v.Len() == 0 {
			v.Set(reflect.Zero(v.Type()))
		}
		for i := range v.Len() {
			emptied(v.Index(i), made)
		}
	case reflect.Struct:
		for i := range v.NumField() {
			emptied(v.Field(i), made)
		}
	}
}

// 7.4: Line and Col of a tree's nodes are any numbers; the fault tells those of its NOn.
func TestAnyPlace(t *testing.T) {
	tree, s := checked(t, begin+"kind k type T { on k(x) { "+stops(4096)+"} }")
	for i := range tree.Nodes[1:] {
		n := &tree.Nodes[i+1]
		n.Line, n.Col = 7-i, -i
		if n.Kind == api.NOn {
			n.Line, n.Col = -3, 0
		}
	}
	if _, err := codegen.Compile(tree, s); err == nil || placed(t, err) != (at{-3, 0, api.ErrBig}) {
		t.Errorf("%v", err)
	}
}
