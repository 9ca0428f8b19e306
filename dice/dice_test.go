package dice_test

import (
	"math"
	"testing"

	"horizon/dice"
)

// 2.1
func TestSeedIsMixed(t *testing.T) {
	for _, master := range states() {
		for _, c := range []struct {
			stream int
			times  uint64
		}{{0, 1}, {1, 2}, {2, 3}, {4095, 4096}, {-1, 0}, {-2, most}, {-3, most - 1}, {math.MaxInt64, 1 << 63}, {math.MinInt64, 1<<63 + 1}} {
			want := mixed(master + c.times*numG)
			if s := dice.Seed(master, c.stream); s != want {
				t.Errorf("Seed(%d, %d) = %d, want %d", master, c.stream, s, want)
			}
		}
	}
}

// 2.1
func TestSeedExamples(t *testing.T) {
	for _, c := range []struct {
		master uint64
		stream int
		want   uint64
	}{{0, 0, 16029294309190777411}, {1, 0, 4628579473979075448}, {0, 1, 15738095286418440508}, {7, 3, 9137669763181513752}, {7, 0, 7955263204828808627}, {0, -1, 0}} {
		if s := dice.Seed(c.master, c.stream); s != c.want {
			t.Errorf("Seed(%d, %d) = %d, want %d", c.master, c.stream, s, c.want)
		}
	}
}

// 2.2
func TestNextExamples(t *testing.T) {
	for _, c := range []struct{ s, next, thrown uint64 }{
		{0, 1442695040888963407, 796964168749242244},
		{1, 7806831264735756412, 6296879179008572935},
		{7, 9098160460397411210, 7113907600518549850},
	} {
		if s, x := dice.Next(c.s); s != c.next || x != c.thrown {
			t.Errorf("Next(%d) = %d, %d, want %d, %d", c.s, s, x, c.next, c.thrown)
		}
	}
}

// 2.2
func TestNextStepsAndMixes(t *testing.T) {
	for _, s := range states() {
		next, x := dice.Next(s)
		if next != behind(s) || x != mixed(behind(s)) {
			t.Errorf("Next(%d) = %d, %d, want %d, %d", s, next, x, behind(s), mixed(behind(s)))
		}
	}
}

// 2.2
func TestNextThrowsEveryNumber(t *testing.T) {
	for _, x := range states() {
		if _, y := dice.Next(throwing(x)); y != x {
			t.Errorf("the state that throws %d threw %d", x, y)
		}
	}
}

// 2.2
func TestBackUndoesNext(t *testing.T) {
	if s := dice.Back(1442695040888963407); s != 0 {
		t.Errorf("Back(1442695040888963407) = %d, want 0", s)
	}
	for _, s := range states() {
		next, _ := dice.Next(s)
		if back := dice.Back(next); back != s {
			t.Errorf("Back(%d) = %d, want %d", next, back, s)
		}
		if again, _ := dice.Next(dice.Back(s)); again != s {
			t.Errorf("the state of Next(Back(%d)) = %d", s, again)
		}
	}
}

// 2.3
func TestJumpExamples(t *testing.T) {
	for _, c := range []struct{ s, n, want uint64 }{{0, 3, 11166244414315200793}, {5, 0, 5}, {0, 2, 1876011003808476466}, {numC, most, 0}} {
		if s := dice.Jump(c.s, c.n); s != c.want {
			t.Errorf("Jump(%d, %d) = %d, want %d", c.s, c.n, s, c.want)
		}
	}
}

// 2.3
func TestJumpIsManySteps(t *testing.T) {
	for _, from := range states()[:30] {
		s := from
		for n := range uint64(600) {
			if to := dice.Jump(from, n); to != s {
				t.Fatalf("Jump(%d, %d) = %d, want %d", from, n, to, s)
			}
			s = behind(s)
		}
	}
}

// 2.3
func TestJumpDoubles(t *testing.T) {
	for _, s := range states() {
		for i := range 63 {
			half := uint64(1) << i
			if to, want := dice.Jump(s, 2*half), dice.Jump(dice.Jump(s, half), half); to != want {
				t.Fatalf("Jump(%d, 2^%d) = %d, want %d", s, i+1, to, want)
			}
		}
		// The steps go round through all 2^64 states, so 2^63 steps and 2^63 more lead back.
		if to := dice.Jump(dice.Jump(s, 1<<63), 1<<63); to != s {
			t.Fatalf("2^64 steps from %d lead to %d", s, to)
		}
	}
}

// 2.3
func TestJumpsAddUp(t *testing.T) {
	l := states()
	for i, n := range l {
		m, s := l[(i+7)%len(l)], l[(i+31)%len(l)]
		if to, want := dice.Jump(dice.Jump(s, n), m), dice.Jump(s, n+m); to != want {
			t.Errorf("%d and %d steps from %d lead to %d, %d at once to %d", n, m, s, to, n+m, want)
		}
	}
}

// 2.3: a jump that goes step by step never ends here.
func TestJumpIsFast(t *testing.T) {
	s := uint64(1)
	for i := range uint64(100000) {
		s = dice.Jump(s, most-i)
	}
	for i := range uint64(100000) {
		s = dice.Jump(s, i+1)
	}
	if s != 1 {
		t.Errorf("as many steps on as back lead from 1 to %d", s)
	}
}
