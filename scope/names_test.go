package scope_test

import (
	"math"
	"math/big"
	"strconv"
	"testing"

	"horizon/api"
	"horizon/scope"
)

// 5.11: the chapter's examples.
func TestPartExamples(t *testing.T) {
	s := scene(t, seven)
	for _, c := range []struct {
		name string
		at   int
		want int
		code api.Errno
	}{
		{"p", 0, 0, api.OK}, {"p", 1, 1, api.OK}, {"q", -1, 2, api.OK}, {"p", -1, 0, api.ErrSize}, {"p", 2, 0, api.ErrSize}, {"q", 0, 0, api.ErrSize},
		{"r", 0, 0, api.ErrUnknown}, {"", -1, 0, api.ErrUnknown}, {"T", -1, 0, api.ErrUnknown}, {"p[0]", -1, 0, api.ErrUnknown}, {"P", 0, 0, api.ErrUnknown},
	} {
		if got, code := scope.Part(s, c.name, c.at); got != c.want || code != c.code {
			t.Errorf("Part(%q, %d) = %d, %d", c.name, c.at, got, code)
		}
	}
}

// 5.12: the chapter's examples.
func TestTitleExamples(t *testing.T) {
	s := scene(t, seven)
	for part, want := range map[int]string{0: "p[0]", 1: "p[1]", 2: "q"} {
		if got, code := scope.Title(s, part); got != want || code != api.OK {
			t.Errorf("Title(%d) = %q, %d", part, got, code)
		}
	}
	for _, part := range []int{3, -1, math.MaxInt64, math.MinInt64} {
		if got, code := scope.Title(s, part); got != "" || code != api.ErrUnknown {
			t.Errorf("Title(%d) = %q, %d", part, got, code)
		}
	}
}

// odd are numbers that no place of a checked scene has, and some that it may.
func odd() []int {
	return []int{math.MinInt64, math.MinInt64 + 1, -3, -2, -1, 0, 1, 2, 3, 4, math.MaxInt64 - 1, math.MaxInt64}
}

// oddScenes are scenes of two places each, with all odd numbers.
func oddScenes(see func(s api.Scene)) {
	for _, at := range odd() {
		for _, size := range odd() {
			for _, other := range []string{"x", "y"} {
				see(api.Scene{Places: []api.Place{{Name: "x", At: at, Size: size}, {Name: other, At: 1, Size: 2}}})
				see(api.Scene{Places: []api.Place{{Name: "x", At: 2}, {Name: other, Type: 9, At: at, Size: size}}})
			}
		}
	}
}

// 5.11: any scene.
func TestPartAnyScene(t *testing.T) {
	oddScenes(func(s api.Scene) {
		for _, name := range []string{"x", "y", "z"} {
			for _, at := range odd() {
				want, wantCode := 0, api.ErrUnknown
				for _, p := range s.Places {
					if p.Name != name {
						continue
					}
					want, wantCode = 0, api.ErrSize
					if p.Size < 1 && at == -1 {
						want, wantCode = p.At, api.OK
					} else if p.Size >= 1 && at >= 0 && at <= p.Size-1 {
						want, wantCode = p.At+at, api.OK
					}
					break
				}
				if got, code := scope.Part(s, name, at); got != want || code != wantCode {
					t.Fatalf("%v: Part(%s, %d) = %d, %d, not %d, %d", s.Places, name, at, got, code, want, wantCode)
				}
			}
		}
	})
	if got, code := scope.Part(api.Scene{}, "x", -1); got != 0 || code != api.ErrUnknown {
		t.Errorf("no scene: %d, %d", got, code)
	}
}

// title is 5.12 with numbers that have no bounds.
func title(s api.Scene, part int) (string, api.Errno) {
	for _, p := range s.Places {
		if p.Size < 1 {
			if p.At == part {
				return p.Name, api.OK
			}
			continue
		}
		past := new(big.Int).Add(big.NewInt(int64(p.At)), big.NewInt(int64(p.Size)))
		if part >= p.At && big.NewInt(int64(part)).Cmp(past) < 0 {
			return p.Name + "[" + new(big.Int).Sub(big.NewInt(int64(part)), big.NewInt(int64(p.At))).String() + "]", api.OK
		}
	}
	return "", api.ErrUnknown
}

// 5.12: any scene.
func TestTitleAnyScene(t *testing.T) {
	oddScenes(func(s api.Scene) {
		for _, part := range odd() {
			want, wantCode := title(s, part)
			if got, code := scope.Title(s, part); got != want || code != wantCode {
				t.Fatalf("%v: Title(%d) = %q, %d, not %q, %d", s.Places, part, got, code, want, wantCode)
			}
		}
	})
	if got, code := scope.Title(api.Scene{}, 0); got != "" || code != api.ErrUnknown {
		t.Errorf("no scene: %q, %d", got, code)
	}
	strange := api.Scene{Places: []api.Place{{Name: "", At: 3}, {Name: "a b]", At: 10, Size: 200}}}
	for part, want := range map[int]string{3: "", 10: "a b][0]", 110: "a b][100]", 209: "a b][199]"} {
		if got, code := scope.Title(strange, part); got != want || code != api.OK {
			t.Errorf("Title(%d) = %q, %d", part, got, code)
		}
	}
}

// 5.11, 5.12: in a checked scene each part has a title, and Part finds it by that.
func TestPartsAndTitles(t *testing.T) {
	s := scene(t, begin+"type T { } place a : T place b[3] : T place c[1] : T place d[12] : T place e : T")
	titles := map[string]int{}
	for part := range s.Parts {
		name, code := scope.Title(s, part)
		if code != api.OK {
			t.Fatalf("part %d: %d", part, code)
		}
		titles[name] = part
	}
	if len(titles) != 18 {
		t.Errorf("%v", titles)
	}
	for _, p := range s.Places {
		if p.Size == 0 {
			if got, code := scope.Part(s, p.Name, -1); code != api.OK || got != titles[p.Name] {
				t.Errorf("%s: %d, %d", p.Name, got, code)
			}
		}
		for i := range p.Size {
			if got, code := scope.Part(s, p.Name, i); code != api.OK || got != titles[p.Name+"["+strconv.Itoa(i)+"]"] {
				t.Errorf("%s %d: %d, %d", p.Name, i, got, code)
			}
		}
	}
}
