package dice

import "iter"

// Die is a stream that remembers its state.
type Die struct {
	state uint64
}

// New is a die at a state.
func New(s uint64) *Die { return &Die{state: s} }

// Roll throws the next number.
func (d *Die) Roll() uint64 {
	var x uint64
	d.state, x = Next(d.state)
	return x
}

// State is where the die is.
func (d *Die) State() uint64 { return d.state }

// Skip moves the die n steps on.
func (d *Die) Skip(n uint64) { d.state = Jump(d.state, n) }

// Each throws n numbers, one behind the other; who stops early has thrown no more than it took.
func (d *Die) Each(n int) iter.Seq[uint64] {
	return func(yield func(uint64) bool) {
		for range n {
			if !yield(d.Roll()) {
				return
			}
		}
	}
}
