package dice_test

import (
	"math"
	"math/big"
	"testing"

	"horizon/api"
	"horizon/dice"
)

const most = math.MaxUint64

// The chapter's numbers.
const (
	numA = 6364136223846793005
	numC = 1442695040888963407
	numM = 11400714819323198485
	numG = 15074714826142052245
)

// wrapped is a whole number modulo 2^64.
func wrapped(n *big.Int) uint64 {
	return new(big.Int).And(n, bigOf(most)).Uint64()
}

func bigOf(n uint64) *big.Int { return new(big.Int).SetUint64(n) }

// mixed is the chapter's Mix, reckoned with true numbers.
func mixed(x uint64) uint64 {
	x ^= uint64(uint32(x >> 32))
	x = wrapped(new(big.Int).Mul(bigOf(x), bigOf(numM)))
	return x ^ x/(1<<29)
}

// behind is the chapter's step, reckoned with true numbers.
func behind(s uint64) uint64 {
	n := new(big.Int).Mul(bigOf(s), bigOf(numA))
	return wrapped(n.Add(n, bigOf(numC)))
}

// inverse is the number that makes 1 of an odd number, modulo 2^64.
func inverse(odd uint64) uint64 {
	n := new(big.Int).ModInverse(bigOf(odd), new(big.Int).Lsh(bigOf(1), 64))
	return n.Uint64()
}

// throwing is the state from which the next number thrown is x.
func throwing(x uint64) uint64 {
	x ^= x>>29 ^ x>>58
	x *= inverse(numM)
	x ^= x >> 32
	return (x - numC) * inverse(numA)
}

func states() []uint64 {
	l := []uint64{0, 1, 2, 7, numC, most - 1, most, 1 << 63, 1<<63 - 1, 1 << 32, 1<<32 - 1}
	s := uint64(99)
	for range 200 {
		s = s*3935559000370003845 + 2691343689449507681
		l = append(l, s)
	}
	return l
}

// TestHelp looks at the tests' own means: the state that throws a number throws it.
func TestHelp(t *testing.T) {
	for _, x := range states() {
		if y := mixed(behind(throwing(x))); y != x {
			t.Fatalf("the state that is to throw %d throws %d", x, y)
		}
	}
}

func sameNumbers[T comparable](a, b []T) bool {
	if len(a) != len(b) {
		return false
	}
	for i := range a {
		if a[i] != b[i] {
			return false
		}
	}
	return true
}

// refused tells that a call has given back the error, the state it was given and nothing else.
func refused[T comparable](t *testing.T, what string, x T, s uint64, e api.Errno, from uint64, want api.Errno) {
	t.Helper()
	var zero T
	if x != zero || s != from || e != want {
		t.Errorf("%s = %v, %d, %d, want a zero, %d, %d", what, x, s, e, from, want)
	}
}

// below is 2.4 in true numbers: the number, the state behind it, how many were thrown.
func below(s, n uint64) (uint64, uint64, int) {
	w := new(big.Int).Mod(new(big.Int).Lsh(bigOf(1), 64), bigOf(n)).Uint64()
	for k := 1; ; k++ {
		s = behind(s)
		if x := mixed(s); x >= w || k == api.MaxThrows {
			return x % n, s, k
		}
	}
}

// jumped is s, n steps on, one by one.
func jumped(s uint64, n int) uint64 {
	for range n {
		s, _ = dice.Next(s)
	}
	return s
}
