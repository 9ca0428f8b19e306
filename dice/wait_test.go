package dice_test

import (
	"math"
	"math/big"
	"sort"
	"testing"

	"horizon/api"
	"horizon/dice"
)

// depth is the chapter's L for a number that was thrown, in true numbers.
func depth(x uint64) int64 {
	if x == 0 {
		x = 1
	}
	m := bigOf(x)
	k := m.BitLen() - 1
	m.Lsh(m, uint(63-k))
	f := int64(0)
	for range 16 {
		m.Mul(m, m)
		if m.BitLen() == 128 {
			f = f*2 + 1
			m.Rsh(m, 64)
		} else {
			f = f * 2
			m.Rsh(m, 63)
		}
	}
	return 64*65536 - (int64(k)*65536 + f)
}

// waited is the time of 2.8 as a true number.
func waited(x, mean uint64) *big.Int {
	n := new(big.Int).Mul(bigOf(mean), big.NewInt(depth(x)))
	n.Mul(n, big.NewInt(45426))
	return n.Rsh(n, 32)
}

// 2.8
func TestWaitExamples(t *testing.T) {
	s := dice.Seed(7, 0)
	for i, want := range []uint64{1874, 690, 172, 439, 2113} {
		x, next, e := dice.Wait(s, 1000)
		if x != want || next != jumped(s, 1) || e != api.OK {
			t.Errorf("wait %d = %d, %d, %d, want %d", i, x, next, e, want)
		}
		s = next
	}
	if x, s, e := dice.Wait(0, 1000); x != 3141 || s != 1442695040888963407 || e != api.OK {
		t.Errorf("Wait(0, 1000) = %d, %d, %d", x, s, e)
	}
	x, s, e := dice.Wait(0, 9223372036854775808)
	refused(t, "Wait(0, 2^63)", x, s, e, 0, api.ErrTime)
}

// numbers are what may be thrown: the ends, and about each power of 2.
func numbers() []uint64 {
	l := append(states(), 3, 5, 6)
	for k := range 64 {
		l = append(l, 1<<k, 1<<k-1, 1<<k+1, 3<<k, most<<k, most>>k)
	}
	for f := int64(1); f <= 65536; f += 1771 {
		least := leastOf(65536 - f)
		l = append(l, least, least-1)
	}
	return l
}

// leastOf is the least number of 64 bits that is no deeper: there the last digit hangs on the last bit of each square.
func leastOf(d int64) uint64 {
	return 1<<63 + uint64(sort.Search(math.MaxInt64, func(i int) bool { return depth(1<<63+uint64(i)) <= d }))
}

// 2.8
func TestWaitAll(t *testing.T) {
	for _, thrown := range numbers() {
		from := throwing(thrown)
		for _, mean := range []uint64{1, 2, 3, 100, 1000, 94548, 94549, 1 << 22, 1 << 32, 1<<32 - 1, 1<<57 + 12345} {
			want := waited(thrown, mean).Uint64()
			if x, s, e := dice.Wait(from, mean); x != want || s != jumped(from, 1) || e != api.OK {
				t.Errorf("Wait of %d, with %d thrown = %d, %d, %d, want %d", mean, thrown, x, s, e, want)
			}
		}
	}
}

// 2.8: a 0 that is thrown is a 1.
func TestWaitOfZeroThrown(t *testing.T) {
	from := throwing(0)
	if x, s, e := dice.Wait(from, 1<<20); x != 64*65536*45426>>12 || s != jumped(from, 1) || e != api.OK {
		t.Errorf("Wait with 0 thrown = %d, %d, %d", x, s, e)
	}
}

// 2.8
func TestWaitOfMeanZero(t *testing.T) {
	for _, thrown := range numbers() {
		from := throwing(thrown)
		if x, s, e := dice.Wait(from, 0); x != 0 || s != jumped(from, 1) || e != api.OK {
			t.Errorf("Wait of 0 = %d, %d, %d, want 0, %d", x, s, e, jumped(from, 1))
		}
	}
}

// 2.8: the greatest mean whose time 64 bits hold, and the one above it.
func TestWaitAtTheEndOfTime(t *testing.T) {
	met := 0
	for _, thrown := range numbers() {
		from := throwing(thrown)
		// mean * depth * 45426 < 2^96
		greatest := new(big.Int).Lsh(bigOf(1), 96)
		greatest.Sub(greatest, bigOf(1))
		greatest.Div(greatest, big.NewInt(depth(thrown)*45426))
		if !greatest.IsUint64() || greatest.Uint64() == most {
			x, s, e := dice.Wait(from, most)
			if want := waited(thrown, most).Uint64(); x != want || s != jumped(from, 1) || e != api.OK {
				t.Errorf("Wait of 2^64-1, with %d thrown = %d, %d, %d, want %d", thrown, x, s, e, want)
			}
			continue
		}
		met++
		mean := greatest.Uint64()
		if x, s, e := dice.Wait(from, mean); x != waited(thrown, mean).Uint64() || s != jumped(from, 1) || e != api.OK {
			t.Errorf("Wait of %d, with %d thrown = %d, %d, %d", mean, thrown, x, s, e)
		}
		for _, mean := range []uint64{mean + 1, most} {
			x, s, e := dice.Wait(from, mean)
			refused(t, "Wait beyond time", x, s, e, from, api.ErrTime)
		}
	}
	if met == 0 {
		t.Errorf("no number was met whose times have an end")
	}
}
