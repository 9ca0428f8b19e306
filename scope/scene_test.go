package scope_test

import (
	"fmt"
	"slices"
	"testing"

	"horizon/api"
	"horizon/scope"
)

const seven = "look 5 end 9 kind k type T { var r[2] = 7 var s = 1 on k(d) { } } place p[2] : T (r[1] = 9) place q : T start k(3) to p at 4 start k(5) to q at 0"

// checkScene holds a scene against one that is written out; lists that are empty and lists that are none look the same.
func checkScene(t *testing.T, src string, want api.Scene) {
	t.Helper()
	if got, want := fmt.Sprintf("%+v", scene(t, src)), fmt.Sprintf("%+v", want); got != want {
		t.Errorf("%s:\n%s\nnot\n%s", src, got, want)
	}
}

// 5.10: the settings, and what stands in their place.
func TestSceneSettings(t *testing.T) {
	checkScene(t, "look 5 end 9", api.Scene{Look: 5, End: 9, Budget: 1000, Fuel: 1000})
	checkScene(t, "fuel 3 end 0 budget 0 seed 18446744073709551615 look 18446744073709551615", api.Scene{Seed: 1<<64 - 1, Look: 1<<64 - 1, Fuel: 3})
	checkScene(t, "fuel 4096 end 18446744073709551615 budget 4096 look 1", api.Scene{Look: 1, End: 1<<64 - 1, Budget: 4096, Fuel: 4096})
}

// 5.10: the chapter's scene, list by list.
func TestSceneOfTheChapter(t *testing.T) {
	checkScene(t, seven, api.Scene{
		Kinds: []string{"k"},
		Types: []api.Type{{
			Name: "T", Vars: []api.Var{{Name: "r", At: 0, Size: 2}, {Name: "s", At: 2, Size: 0}},
			First: []int64{7, 7, 1}, Handlers: []api.Handler{{Kind: 0, Param: "d", Node: 11}},
		}},
		Places: []api.Place{{Name: "p", Type: 0, At: 0, Size: 2}, {Name: "q", Type: 0, At: 2, Size: 0}},
		Parts:  []api.Part{{Program: 0, Words: []int64{7, 9, 1}}, {Program: 0, Words: []int64{7, 9, 1}}, {Program: 0, Words: []int64{7, 7, 1}}},
		Starts: []api.Start{{Time: 4, Dst: 0, Kind: 0, Data: 3}, {Time: 4, Dst: 1, Kind: 0, Data: 3}, {Time: 0, Dst: 2, Kind: 0, Data: 5}},
		Look:   5, End: 9, Budget: 1000, Fuel: 1000,
	})
}

// 5.10: everything in an odd order: what is named stands behind, numbers are those of the text.
func TestSceneNumbers(t *testing.T) {
	checkScene(t, "start m(3) to s[1] at 18446744073709551615 place s[2] : U (w = -1) const A = 3 start k(-A) to p at 1 place p : T type V { } type T { on m(x) { } var v on k(y) { } } kind k, l kind m type U { var w[2] = 5 var u = A } place o[1] : V look 1 end 2 start l(1 << 63) to s at 7 const B = A * A place z : U (w[1] = B, u = 8)",
		api.Scene{
			Consts: []api.Const{{Name: "A", Value: 3}, {Name: "B", Value: 9}},
			Kinds:  []string{"k", "l", "m"},
			Types: []api.Type{
				{Name: "V"},
				{Name: "T", Vars: []api.Var{{Name: "v"}}, First: []int64{0}, Handlers: []api.Handler{{Kind: 2, Param: "x", Node: 21}, {Kind: 0, Param: "y", Node: 25}}},
				{Name: "U", Vars: []api.Var{{Name: "w", Size: 2}, {Name: "u", At: 2}}, First: []int64{5, 5, 3}},
			},
			Places: []api.Place{{Name: "s", Type: 2, At: 0, Size: 2}, {Name: "p", Type: 1, At: 2}, {Name: "o", Type: 0, At: 3, Size: 1}, {Name: "z", Type: 2, At: 4}},
			Parts:  []api.Part{{Program: 2, Words: []int64{-1, -1, 3}}, {Program: 2, Words: []int64{-1, -1, 3}}, {Program: 1, Words: []int64{0}}, {Program: 0}, {Program: 2, Words: []int64{5, 9, 8}}},
			Starts: []api.Start{{Time: 1<<64 - 1, Dst: 1, Kind: 2, Data: 3}, {Time: 1, Dst: 2, Kind: 0, Data: -3}, {Time: 7, Dst: 0, Kind: 1, Data: -1 << 63}, {Time: 7, Dst: 1, Kind: 1, Data: -1 << 63}},
			Look:   1, End: 2, Budget: 1000, Fuel: 1000,
		})
}

// 5.10: the values of consts.
func TestSceneConsts(t *testing.T) {
	s := scene(t, begin+"const A = 9223372036854775807 + 1 const B = -7 / 2 + -7 % 2 * 10 const C = 1 << 64 | 3 >> 99 const D = min(A, 3) < max(2, -1) && 5 const E = ~0 ^ 12 & 10")
	want := []api.Const{{Name: "A", Value: -1 << 63}, {Name: "B", Value: -13}, {Name: "C", Value: 0}, {Name: "D", Value: 1}, {Name: "E", Value: -9}}
	if !slices.Equal(s.Consts, want) {
		t.Errorf("%v", s.Consts)
	}
}

// 5.10: as large as a scene may be.
func TestSceneLarge(t *testing.T) {
	s := scene(t, begin+"kind k type T { var r[64] = 3 } place p[64] : T (r[63] = 4) "+repeat(4, "start k($) to p at $"))
	if len(s.Parts) != 64 || len(s.Starts) != 256 {
		t.Fatalf("%d parts, %d starts", len(s.Parts), len(s.Starts))
	}
	for i, p := range s.Parts {
		if len(p.Words) != 64 || p.Words[0] != 3 || p.Words[62] != 3 || p.Words[63] != 4 {
			t.Errorf("part %d: %v", i, p.Words)
		}
	}
	for i, e := range s.Starts {
		if e != (api.Start{Time: uint64(i / 64), Dst: i % 64, Data: int64(i / 64)}) {
			t.Errorf("start %d: %v", i, e)
		}
	}
}

// 0.4: no two lists of a scene, and no two scenes, share any memory, spare room too; nothing of it is the tree's.
func TestSceneIsNew(t *testing.T) {
	src := "look 5 end 9 const A = 1 kind k, l type T { var r[2] = 7 var s = 1 on k(d) { } on l(d) { } } type U { var x } place p[3] : T place q : T place o : U start k(3) to p at 4"
	tree := parsed(t, src)
	before := fmt.Sprintf("%+v", tree)
	first, err := scope.Check(tree)
	if err != nil {
		t.Fatal(err)
	}
	want := fmt.Sprintf("%+v", first)
	second, _ := scope.Check(tree)
	spoil(&second)
	if got := fmt.Sprintf("%+v", first); got != want {
		t.Errorf("another scene was changed: %s", got)
	}
	if got := fmt.Sprintf("%+v", tree); got != before {
		t.Errorf("the tree was changed: %s", got)
	}
	var lists []*int64
	for i := range first.Parts {
		lists = append(lists, room(&first.Parts[i].Words)...)
	}
	for i := range first.Types {
		lists = append(lists, room(&first.Types[i].First)...)
	}
	for i, p := range lists {
		if slices.Contains(lists[i+1:], p) {
			t.Errorf("two lists share a word")
		}
	}
	for i := range tree.Nodes {
		tree.Nodes[i] = api.Node{}
	}
	if got := fmt.Sprintf("%+v", first); got != want {
		t.Errorf("the tree's memory is in it: %s", got)
	}
}

// room is the addresses of all words that a list has room for.
func room(words *[]int64) []*int64 {
	var l []*int64
	all := (*words)[:cap(*words)]
	for i := range all {
		l = append(l, &all[i])
	}
	return l
}

// spoil writes over all that a scene has room for.
func spoil(s *api.Scene) {
	for _, x := range s.Types {
		clear(x.Vars[:cap(x.Vars)])
		clear(x.First[:cap(x.First)])
		clear(x.Handlers[:cap(x.Handlers)])
	}
	for _, p := range s.Parts {
		clear(p.Words[:cap(p.Words)])
	}
	clear(s.Consts[:cap(s.Consts)])
	clear(s.Kinds[:cap(s.Kinds)])
	clear(s.Types[:cap(s.Types)])
	clear(s.Places[:cap(s.Places)])
	clear(s.Parts[:cap(s.Parts)])
	clear(s.Starts[:cap(s.Starts)])
}
