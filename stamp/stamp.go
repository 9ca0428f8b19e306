// Package stamp: times, keys, the order of events, their bytes and their text: see DOC.md, layer 1.
package stamp

import (
	"cmp"

	"horizon/api"
)

// Compare tells which key goes first: -1, 0 or 1.
func Compare(a, b api.Key) int {
	return cmp.Or(
		cmp.Compare(a.Time, b.Time),
		cmp.Compare(a.Src, b.Src),
		cmp.Compare(a.Seq, b.Seq),
	)
}

// Add is t + d, or ErrTime.
func Add(t, d uint64) (uint64, api.Errno) {
	sum := t + d
	if sum < t {
		return 0, api.ErrTime
	}
	return sum, api.OK
}

// Bound is the end of the window that begins at low: low + look, but not above end.
func Bound(low, look, end uint64) uint64 {
	sum, err := Add(low, look)
	if err != api.OK {
		return end
	}
	return min(sum, end)
}

// Clock is a time that goes on until it would leave what 64 bits hold.
type Clock struct {
	now uint64
	err api.Errno
}

// NewClock is a clock at a time.
func NewClock(at uint64) *Clock { return &Clock{now: at} }

// Now is the clock's time.
func (c *Clock) Now() uint64 { return c.now }

// Advance moves the clock on; what went wrong once stays wrong.
func (c *Clock) Advance(d uint64) api.Errno {
	if c.err != api.OK {
		return c.err
	}
	next, err := Add(c.now, d)
	if err != api.OK {
		c.err = err
		return err
	}
	c.now = next
	return api.OK
}

// Err is OK, or what went wrong first.
func (c *Clock) Err() api.Errno { return c.err }
