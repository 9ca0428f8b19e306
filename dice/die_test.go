package dice_test

import (
	"iter"
	"math"
	"testing"

	"horizon/dice"
)

// 2.9
func TestDieRolls(t *testing.T) {
	for _, from := range states() {
		d := dice.New(from)
		if d.State() != from || d.State() != from {
			t.Fatalf("New(%d) has the state %d", from, d.State())
		}
		s := from
		for range 5 {
			var want uint64
			s, want = dice.Next(s)
			if x := d.Roll(); x != want || d.State() != s || d.State() != s {
				t.Fatalf("a die of %d rolled %d and is at %d, want %d, %d", from, x, d.State(), want, s)
			}
		}
	}
}

// 2.9
func TestDieSkips(t *testing.T) {
	for _, n := range states() {
		d := dice.New(7)
		d.Skip(n)
		if want := dice.Jump(7, n); d.State() != want {
			t.Errorf("a die skipped %d and is at %d, want %d", n, d.State(), want)
		}
		d.Skip(0)
		d.Skip(-n)
		if d.State() != 7 {
			t.Errorf("a die skipped %d and back, and is at %d", n, d.State())
		}
	}
}

// 2.9
func TestDiceAreApart(t *testing.T) {
	a, b := dice.New(0), dice.New(0)
	inB := b.Each(2)
	a.Roll()
	a.Skip(9)
	if b.State() != 0 {
		t.Errorf("another die's throws moved this one to %d", b.State())
	}
	if x := b.Roll(); x != 796964168749242244 || a.State() != jumped(0, 10) {
		t.Errorf("the second die rolled %d, the first one is at %d", x, a.State())
	}
	for range inB {
	}
	if b.State() != jumped(0, 3) || a.State() != jumped(0, 10) {
		t.Errorf("a range over the second die: the dice are at %d, %d", a.State(), b.State())
	}
}

// 2.10
func TestEachLeftEarly(t *testing.T) {
	d := dice.New(0)
	var l []uint64
	for x := range d.Each(5) {
		l = append(l, x)
		if len(l) == 2 {
			break
		}
	}
	if !sameNumbers(l, []uint64{796964168749242244, 15735522419134810049}) || d.State() != 1876011003808476466 {
		t.Errorf("left behind the second number: %v, %d", l, d.State())
	}
	for k := 1; k <= 6; k++ {
		d := dice.New(3)
		n := 0
		for range d.Each(6) {
			if n++; n == k {
				break
			}
		}
		if d.State() != jumped(3, k) {
			t.Errorf("left behind %d numbers: the die is at %d, want %d", k, d.State(), jumped(3, k))
		}
	}
}

// 2.10
func TestEachGivesAsManyAsAsked(t *testing.T) {
	for _, n := range []int{math.MinInt64, -7, -1, 0, 1, 2, 100} {
		d, same := dice.New(11), dice.New(11)
		given := 0
		for x := range d.Each(n) {
			given++
			if want := same.Roll(); x != want || d.State() != same.State() {
				t.Fatalf("number %d is %d at %d, want %d at %d", given, x, d.State(), want, same.State())
			}
		}
		if given != max(n, 0) || d.State() != jumped(11, max(n, 0)) {
			t.Errorf("Each(%d) gave %d numbers, the die is at %d", n, given, d.State())
		}
	}
}

// 2.10
func TestEachOfTheMostIsNotThrownAhead(t *testing.T) {
	d := dice.New(1)
	for range d.Each(math.MaxInt64) {
		break
	}
	if d.State() != jumped(1, 1) {
		t.Errorf("one number of very many: the die is at %d", d.State())
	}
}

// 2.10
func TestEachIsNoThrowUntilRangedOver(t *testing.T) {
	d := dice.New(5)
	each := d.Each(3)
	if d.State() != 5 {
		t.Errorf("an iterator was made, and the die is at %d", d.State())
	}
	d.Skip(10)
	first := true
	for x := range each {
		if _, want := dice.Next(jumped(5, 10)); first && x != want {
			t.Errorf("the first number is %d, want %d", x, want)
		}
		first = false
	}
	if d.State() != jumped(5, 13) {
		t.Errorf("behind the range the die is at %d", d.State())
	}
}

// 2.10
func TestEachAgainThrowsFurther(t *testing.T) {
	d := dice.New(5)
	each := d.Each(3)
	var l, want []uint64
	for range 2 {
		for x := range each {
			l = append(l, x)
		}
	}
	same := dice.New(5)
	for range 6 {
		want = append(want, same.Roll())
	}
	if !sameNumbers(l, want) || d.State() != jumped(5, 6) {
		t.Errorf("ranged over twice: %v, want %v", l, want)
	}
	for range each {
		break
	}
	n := 0
	for range each {
		n++
	}
	if n != 3 || d.State() != jumped(5, 10) {
		t.Errorf("ranged over behind a range that was left: %d numbers, the die is at %d", n, d.State())
	}
}

// 2.10
func TestEachFindsTheStateOfTheMoment(t *testing.T) {
	d := dice.New(0)
	at := 0
	for x := range d.Each(4) {
		_, want := dice.Next(jumped(0, at))
		if x != want {
			t.Errorf("number thrown at step %d: %d, want %d", at, x, want)
		}
		d.Roll()
		d.Skip(2)
		at += 4
	}
	if at != 16 || d.State() != jumped(0, 16) {
		t.Errorf("four numbers with a roll and two steps each: %d, %d", at, d.State())
	}
}

// 2.10
func TestEachWithinEach(t *testing.T) {
	d := dice.New(0)
	each := d.Each(3)
	outer, inner := 0, 0
	for range each {
		outer++
		for range each {
			inner++
		}
	}
	if outer != 3 || inner != 9 || d.State() != jumped(0, 12) {
		t.Errorf("a range within a range: %d, %d, the die is at %d", outer, inner, d.State())
	}
}

// 2.10
func TestEachAskedOneByOne(t *testing.T) {
	d := dice.New(2)
	next, stop := iter.Pull(d.Each(3))
	if d.State() != 2 {
		t.Errorf("not asked yet, and the die is at %d", d.State())
	}
	next()
	if d.State() != jumped(2, 1) {
		t.Errorf("asked once, and the die is at %d", d.State())
	}
	stop()
	if d.State() != jumped(2, 1) {
		t.Errorf("stopped behind one, and the die is at %d", d.State())
	}
}
