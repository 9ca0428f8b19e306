package vm

import (
	"bytes"

	"horizon/api"
)

// reader takes one thing behind the other from the front of its bytes; each call tells whether all was right, and if not, err is why.
type reader struct {
	bytes []byte
	at    int
	err   api.Errno
}

func (r *reader) fail(err api.Errno) bool {
	r.err = err
	return false
}

func (r *reader) next(to *byte) bool {
	if r.at == len(r.bytes) {
		return r.fail(api.ErrShort)
	}
	*to = r.bytes[r.at]
	r.at++
	return true
}

func (r *reader) letters(text string) bool {
	var c byte
	for i := range len(text) {
		if !r.next(&c) {
			return false
		}
		if c != text[i] {
			return r.fail(api.ErrForm)
		}
	}
	return true
}

// lastByte is the place of the byte that holds the 64th bit of a number: nothing above that one bit fits into it.
const lastByte = 9

func (r *reader) number(to *uint64) bool {
	var n uint64
	c := byte(128)
	for k := 0; c >= 128; k++ {
		if !r.next(&c) {
			return false
		}
		if k == lastByte && c > 1 || k > 0 && c == 0 {
			return r.fail(api.ErrForm)
		}
		n |= uint64(c&127) << (7 * k)
	}
	*to = n
	return true
}

func (r *reader) upTo(most uint64, to *int) bool {
	var n uint64
	if !r.number(&n) {
		return false
	}
	if n > most {
		return r.fail(api.ErrForm)
	}
	*to = int(n)
	return true
}

func (r *reader) instr(to *api.Instr) bool {
	var first byte
	if !r.next(&first) {
		return false
	}
	to.Op = int(first & opBits)
	if !isOp(to.Op) {
		return r.fail(api.ErrOp)
	}
	return (first&hasA == 0 || r.announced(&to.A)) && (first&hasB == 0 || r.announced(&to.B))
}

// announced reads a number with sign that would not stand there if it were 0.
func (r *reader) announced(to *int64) bool {
	var n uint64
	if !r.number(&n) {
		return false
	}
	if n == 0 {
		return r.fail(api.ErrForm)
	}
	*to = int64(n >> 1)
	if n&1 == 1 {
		*to = ^*to
	}
	return true
}

// sum reads the end: the sum of all that was read ahead of it.
func (r *reader) sum() bool {
	ahead, left := r.bytes[:r.at], r.bytes[r.at:]
	switch {
	case len(left) < sumLength:
		return r.fail(api.ErrShort)
	case len(left) > sumLength:
		return r.fail(api.ErrForm)
	case !bytes.Equal(left, sumBytes(ahead)):
		return r.fail(api.ErrSum)
	}
	return true
}
