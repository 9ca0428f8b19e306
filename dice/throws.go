package dice

import (
	"math/bits"

	"horizon/api"
)

// Below throws a number under n, each as likely as any other: the number, the state behind it.
func Below(s, n uint64) (uint64, uint64, api.Errno) {
	if n == 0 {
		return 0, s, api.ErrSpan
	}
	// -n is 2^64 - n, which has the remainder of 2^64 itself and fits into 64 bits.
	uneven := -n % n
	var x uint64
	for range api.MaxThrows {
		s, x = Next(s)
		if x >= uneven {
			break
		}
	}
	return x % n, s, api.OK
}

// Span throws a number from lo to hi.
func Span(s uint64, lo, hi int64) (int64, uint64, api.Errno) {
	if lo > hi {
		return 0, s, api.ErrSpan
	}
	n := uint64(hi) - uint64(lo) + 1
	if n == 0 { // 2^64: every number will do
		s, x := Next(s)
		return int64(uint64(lo) + x), s, api.OK
	}
	x, s, e := Below(s, n)
	return int64(uint64(lo) + x), s, e
}

// Pick throws a place of weights, each as likely as its weight says.
func Pick(s uint64, weights []uint64) (int, uint64, api.Errno) {
	if len(weights) > api.MaxRow {
		return 0, s, api.ErrMany
	}
	sum := total(weights)
	if sum == 0 {
		return 0, s, api.ErrWeights
	}
	x, s, e := Below(s, sum)
	return placeOf(x, weights), s, e
}

// total is the sum of all weights; 0, by which nothing can be thrown either, if 64 bits do not hold it.
func total(weights []uint64) uint64 {
	var sum, carry uint64
	for _, w := range weights {
		sum, carry = bits.Add64(sum, w, 0)
		if carry != 0 {
			return 0
		}
	}
	return sum
}

// placeOf is the place at which x lies if the weights are laid end to end; x is below their sum.
func placeOf(x uint64, weights []uint64) int {
	i := 0
	for x >= weights[i] {
		x -= weights[i]
		i++
	}
	return i
}

// Shuffle throws an order of 0 .. n-1.
func Shuffle(s uint64, n int) ([]int, uint64, api.Errno) {
	if n < 0 || n > api.MaxRow {
		return nil, s, api.ErrMany
	}
	order := make([]int, n)
	for i := range order {
		order[i] = i
	}
	for i := n - 1; i >= 1; i-- {
		var j uint64
		j, s, _ = Below(s, uint64(i)+1)
		order[i], order[j] = order[j], order[i]
	}
	return order, s, api.OK
}
