package journal

import (
	"bytes"

	"horizon/api"
	"horizon/stamp"
)

// reader goes through a journal from its front. Wherever it finds that a record is not whole or not right it gives up, by a panic with the reason; then at is where that record begins, and what is told is what was ahead of it.
type reader struct {
	bytes []byte
	at    int
	told  contents
}

// read is what a journal tells, and a *api.ByteError, if it breaks off.
func read(b []byte) (past contents, why error) {
	r := reader{bytes: b}
	defer func() {
		if thrown := recover(); thrown != nil {
			past, why = r.told, &api.ByteError{At: r.at, Err: ownReason(thrown)}
		}
	}()
	for !r.over() {
		r.record()
	}
	return r.told, nil
}

// ownReason lets through what no reader threw: that would be a fault of the program, which nobody should take for one of the journal.
func ownReason(thrown any) api.Errno {
	if code, ok := thrown.(api.Errno); ok {
		return code
	}
	panic(thrown)
}

// insist gives up, if something does not hold.
func insist(holds bool, why api.Errno) {
	if !holds {
		panic(why)
	}
}

// over tells whether an end record was the last, and nothing is behind it.
func (r *reader) over() bool { return r.told.last == endKind && r.at == len(r.bytes) }

// record reads one record.
func (r *reader) record() {
	kind, body := r.frame()
	if r.told.records == 0 {
		insist(kind == headKind && bytes.HasPrefix(body, []byte(magic)), api.ErrMagic)
	}
	l := load{bytes: body}
	switch kind {
	case headKind:
		r.told.takeHead(&l)
	case pictureKind:
		r.told.takePicture(&l, r.at)
	case windowKind:
		r.told.takeWindow(&l, r.at)
	case endKind:
		r.told.takeEnd(&l)
	}
	r.told.records++
	r.told.last, r.told.lastAt = kind, r.at
	r.at += loadAt + len(body) + sumLength
}

// frame is the kind and the load of the next record, whose sums are right.
func (r *reader) frame() (byte, []byte) {
	left := r.bytes[r.at:]
	insist(r.told.last != endKind, api.ErrForm)
	insist(len(left) >= loadAt, api.ErrShort)
	front, kind := left[:frontLength], left[0]
	insist(wordAt(left[frontLength:]) == stamp.Sum(front), api.ErrSum)
	insist(isKind(kind), api.ErrForm)
	size := int(wordAt(front[1:]))
	left = left[loadAt:]
	insist(len(left) >= size+sumLength, api.ErrShort)
	insist(wordAt(left[size:]) == stamp.Sum(left[:size]), api.ErrSum)
	return kind, left[:size]
}

func isKind(kind byte) bool {
	return kind == headKind || kind == pictureKind || kind == windowKind || kind == endKind
}

// load takes one thing behind the other from the front of a record's load; it gives up where the bytes are no such thing, or end too early.
type load struct {
	bytes []byte
}

// skip passes over bytes, and is what they are.
func (l *load) skip(n int) []byte {
	insist(len(l.bytes) >= n, api.ErrForm)
	passed := l.bytes[:n]
	l.bytes = l.bytes[n:]
	return passed
}

func (l *load) number() uint64 {
	var n uint64
	for k := 0; ; k++ {
		c := l.skip(1)[0]
		insist(k < lastByte || c <= 1, api.ErrForm)
		insist(k == 0 || c != 0, api.ErrForm)
		n |= uint64(c&127) << (7 * k)
		if c < 128 {
			return n
		}
	}
}

func (l *load) signed() int64 {
	n := l.number()
	i := int64(n >> 1)
	if n&1 == 1 {
		return ^i
	}
	return i
}

// Lists grow with what is read: the number in front may promise far more than the bytes hold.

func (l *load) states() []api.State {
	var list []api.State
	for range l.number() {
		list = append(list, l.state())
	}
	return list
}

func (l *load) state() api.State {
	var v api.State
	for range l.number() {
		v.Words = append(v.Words, l.signed())
	}
	v.Dice = l.number()
	v.Sent = l.number()
	return v
}

func (l *load) events() []api.Event {
	list, n, code := stamp.UnpackAll(l.bytes)
	insist(code == api.OK, api.ErrForm)
	l.skip(n)
	return list
}

// end gives up, if something is left over.
func (l *load) end() { insist(len(l.bytes) == 0, api.ErrForm) }
