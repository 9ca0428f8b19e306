package stamp

import "horizon/api"

// lastByte is the place of the byte that holds the 64th bit of a number: nothing above that one bit fits into it.
const lastByte = 9

// Pack is an event's bytes.
func Pack(e api.Event) []byte { return appendEvent(nil, e) }

// Unpack reads an event from the front of b: the event, how many bytes it took.
func Unpack(b []byte) (api.Event, int, api.Errno) {
	r := reader{bytes: b}
	e := r.event()
	if r.err != api.OK {
		return api.Event{}, 0, r.err
	}
	return e, r.at, api.OK
}

// PackAll is a list's bytes: its length, then each event's.
func PackAll(l []api.Event) []byte {
	b := appendNumber(nil, uint64(len(l)))
	for _, e := range l {
		b = appendEvent(b, e)
	}
	return b
}

// UnpackAll reads a list from the front of b.
func UnpackAll(b []byte) ([]api.Event, int, api.Errno) {
	r := reader{bytes: b}
	// The list grows with what is read: the number in front may promise far more than the bytes hold.
	var l []api.Event
	for range r.number() {
		e := r.event()
		if r.err != api.OK {
			break
		}
		l = append(l, e)
	}
	if r.err != api.OK {
		return nil, 0, r.err
	}
	return l, r.at, api.OK
}

func appendEvent(b []byte, e api.Event) []byte {
	b = appendNumber(b, e.Key.Time)
	b = appendSigned(b, int64(e.Key.Src))
	b = appendNumber(b, e.Key.Seq)
	b = appendSigned(b, int64(e.Dst))
	b = appendSigned(b, int64(e.Kind))
	return appendSigned(b, e.Data)
}

func appendNumber(b []byte, n uint64) []byte {
	for n >= 128 {
		b = append(b, byte(n)|128)
		n >>= 7
	}
	return append(b, byte(n))
}

// The sign goes to the lowest bit, so that numbers near 0 are short on both sides.
func appendSigned(b []byte, i int64) []byte {
	n := uint64(i) << 1
	if i < 0 {
		n = ^n
	}
	return appendNumber(b, n)
}

// reader takes numbers from the front of its bytes; behind its first error it takes nothing more, so that the first error is the one that is told.
type reader struct {
	bytes []byte
	at    int
	err   api.Errno
}

func (r *reader) event() api.Event {
	var e api.Event
	e.Key.Time = r.number()
	e.Key.Src = int(r.signed())
	e.Key.Seq = r.number()
	e.Dst = int(r.signed())
	e.Kind = int(r.signed())
	e.Data = r.signed()
	return e
}

func (r *reader) signed() int64 {
	n := r.number()
	i := int64(n >> 1)
	if n&1 == 1 {
		return ^i
	}
	return i
}

func (r *reader) number() uint64 {
	var n uint64
	for k := 0; r.err == api.OK; k++ {
		if r.at == len(r.bytes) {
			r.err = api.ErrShort
			break
		}
		c := r.bytes[r.at]
		if k == lastByte && c > 1 || k > 0 && c == 0 {
			r.err = api.ErrForm
			break
		}
		r.at++
		n |= uint64(c&127) << (7 * k)
		if c < 128 {
			return n
		}
	}
	return 0
}
