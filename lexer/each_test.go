package lexer_test

import (
	"iter"
	"testing"

	"horizon/api"
	"horizon/lexer"
)

// 3.2: who stops early gets no more, wherever he stops: at a token or at the error.
func TestStoppedEarly(t *testing.T) {
	for _, src := range []string{"a b c d", "a + 7 _ c", "_", "", "a # b\nc 7x"} {
		want := readSlowly(src)
		all := len(want.list)
		if want.code != api.OK {
			all++
		}
		for stop := 1; stop <= all; stop++ {
			asked := 0
			lexer.Each(src)(func(api.Token, error) bool {
				asked++
				return asked < stop
			})
			if asked != stop {
				t.Errorf("Each(%q), left at %d, gave %d", src, stop, asked)
			}
		}
	}
}

// 3.2, 0.1: ranged over again it begins anew, also where it was left early.
func TestAskedAgain(t *testing.T) {
	for _, src := range []string{"let a = 1\nlet b = 2", "a b _ c", "", "99999999999999999999"} {
		each := lexer.Each(src)
		want := readSlowly(src)
		for range each {
			break
		}
		for range 2 {
			n := 0
			for one, err := range each {
				if err != nil {
					wantFault(t, src, err, want)
					continue
				}
				if n >= len(want.list) || one != want.list[n] {
					t.Fatalf("Each(%q): token %d is %v", src, n, one)
				}
				n++
			}
			if n != len(want.list) {
				t.Errorf("Each(%q) gives %d tokens", src, n)
			}
		}
	}
}

// 3.2, 0.3: one inside of another, and two by turns, know nothing of one another.
func TestSideBySide(t *testing.T) {
	each := lexer.Each("a b c")
	s := ""
	for x := range each {
		for y := range each {
			s += x.Text + y.Text + " "
		}
	}
	if s != "aa ab ac ba bb bc ca cb cc " {
		t.Errorf("nested: %q", s)
	}
	first, stopFirst := iter.Pull2(each)
	defer stopFirst()
	second, stopSecond := iter.Pull2(each)
	defer stopSecond()
	for _, want := range readSlowly("a b c").list {
		x, _, _ := first()
		y, _, _ := second()
		if x != want || y != want {
			t.Errorf("by turns: %v and %v, want %v", x, y, want)
		}
	}
}

// 3.2, 0.4: the errors of two rounds are not one.
func TestErrorsApart(t *testing.T) {
	each := lexer.Each("\n_")
	for _, err := range each {
		err.(*api.PosError).Col = 77
	}
	for _, err := range each {
		wantFault(t, "_", err, reading{nil, api.ErrByte, 2, 1})
	}
}
