package journal_test

import (
	"bytes"
	"errors"
	"math"
	"slices"
	"testing"

	"horizon/api"
	"horizon/journal"
	"horizon/seqrun"
)

// piece is a record's kind and load; its sums are made when it is written.
type piece struct {
	kind byte
	load []byte
}

func pieces(b []byte) (l []piece) {
	notes, _ := slowScan(b)
	for _, x := range notes {
		l = append(l, piece{x.kind, bytes.Clone(b[x.from+9 : x.to-4])})
	}
	return l
}

func written(l []piece) (b []byte) {
	for _, x := range l {
		b = append(b, record(x.kind, x.load)...)
	}
	return b
}

// forger changes journals so that their sums are right again.
type forger struct{ chance }

func (f *forger) number() uint64 {
	return pick(&f.chance, 0, 1, 2, uint64(f.below(9)), uint64(f.below(300)), 1<<62, math.MaxUint64)
}

func (f *forger) event(e api.Event) api.Event {
	switch f.below(7) {
	case 0:
		e.Key.Time += uint64(f.below(7)) - 3
	case 1:
		e.Key.Src += f.below(3) - 1
	case 2:
		e.Key.Seq += uint64(f.below(3)) - 1
	case 3:
		e.Dst += f.below(3) - 1
	case 4:
		e.Kind += f.below(3) - 1
	case 5:
		e.Data = int64(f.next())
	}
	return e
}

func (f *forger) events(l []api.Event) []api.Event {
	l = slices.Clone(l)
	i := f.below(len(l) + 1)
	switch {
	case i == len(l):
		return append(l, f.event(api.Event{}))
	case f.below(4) == 0:
		return slices.Delete(l, i, i+1)
	case f.below(4) == 0:
		return slices.Insert(l, i, f.event(l[i]))
	}
	l[i] = f.event(l[i])
	return l
}

func (f *forger) states(l []api.State) []api.State {
	if len(l) == 0 {
		return make([]api.State, f.below(2))
	}
	v := &l[f.below(len(l))]
	switch f.below(8) {
	case 0:
		v.Words = append(v.Words, 3)
	case 1:
		return l[1:]
	case 2, 3:
		v.Dice = f.next()
	case 4:
		v.Sent = f.number()
	case 5:
		v.Sent += uint64(f.below(4))
	default:
		if len(v.Words) > 0 {
			v.Words[f.below(len(v.Words))] += int64(f.next())
		}
	}
	return l
}

// inside changes what a record tells.
func (f *forger) inside(x piece) piece {
	n := noted{kind: x.kind}
	if !slowLoad(&n, x.load) {
		return x
	}
	switch {
	case x.kind == 'H' && f.below(3) > 0:
		x.load = headLoad(n.digest, f.number())
	case x.kind == 'H':
		x.load = headLoad(n.digest+1, n.number)
	case x.kind == 'F':
		x.load = endLoad(api.Result{Kind: f.below(99), Code: api.Errno(f.below(999)), At: f.event(api.Event{}).Key})
	case f.below(9) == 0:
		n.number = f.number()
		fallthrough
	case x.kind == 'W':
		x.load = windowLoad(n.number, f.events(n.events))
	case f.below(2) == 0:
		x.load = pictureLoad(n.number, api.Point{States: f.states(n.states), Pending: n.events})
	default:
		x.load = pictureLoad(n.number, api.Point{States: n.states, Pending: f.events(n.events)})
	}
	return x
}

// bytesOf changes the bytes of a load.
func (f *forger) bytesOf(b []byte) []byte {
	i := f.below(len(b) + 1)
	switch {
	case i == len(b):
		return append(b, byte(f.below(256)))
	case f.below(3) == 0:
		return b[:i]
	case f.below(3) == 0:
		return slices.Insert(b, i, byte(f.below(2)*128))
	}
	b[i] += byte(1 + f.below(255))
	return b
}

// row changes which records there are.
func (f *forger) row(l []piece) []piece {
	i := f.below(len(l))
	switch f.below(6) {
	case 0:
		return slices.Delete(l, i, i+1)
	case 1:
		return slices.Insert(l, i, l[f.below(len(l))])
	case 2:
		j := f.below(len(l))
		l[i], l[j] = l[j], l[i]
	case 3:
		l[i].kind = pick(&f.chance, byte('H'), 'P', 'W', 'F', byte(f.below(256)))
	default:
		return l[:i+1]
	}
	return l
}

// forged is a journal that was changed, and maybe cut or spoilt behind that.
func (f *forger) forged(j []byte) []byte {
	l := pieces(j)
	for range f.below(3) {
		if len(l) == 0 {
			break
		}
		i := f.below(len(l))
		switch f.below(5) {
		case 0:
			l[i].load = f.bytesOf(l[i].load)
		case 1:
			l = f.row(l)
		default:
			l[i] = f.inside(l[i])
		}
	}
	if len(l) > 2 && f.below(2) == 0 {
		l = l[:2+f.below(len(l)-2)]
	}
	b := written(l)
	if len(b) > 0 && f.below(4) == 0 {
		b = b[:f.below(len(b))]
	}
	if len(b) > 0 && f.below(6) == 0 {
		b[f.below(len(b))] ^= byte(1 << f.below(8))
	}
	if f.below(8) == 0 {
		b = append(b, byte(f.below(256)))
	}
	return b
}

// codeOf is the number of an error; OK for none.
func codeOf(err error) api.Errno {
	var code api.Errno
	errors.As(err, &code)
	return code
}

// 16.7 to 16.9: forged journals of thrown plans, as the words read slowly.
func TestForged(t *testing.T) {
	m, f := maker{chance: 167}, forger{chance: 168}
	scans, recovers, resumes := map[api.Errno]int{}, map[api.Errno]int{}, map[api.Errno]int{}
	far := 0
	for range 500 {
		p := m.plan(t)
		every := 1 + m.below(4)
		j, _, _ := journal.Record(p, every)
		for range 30 {
			b := f.forged(j)
			l, err := slowScan(b)
			same(t, "Scan", scan(journal.Scan(b)), scan(len(l), slowBytes(l), err))
			scans[codeOf(err)]++
			at, number, err := slowRecover(p, b)
			same(t, "Recover", point(journal.Recover(p, b)), point(at, number, err))
			recovers[codeOf(err)]++
			if f.below(9) == 0 {
				every = 1 + f.below(4)
			}
			x, r, err := slowResume(p, every, b)
			same(t, "Resume", answer(journal.Resume(p, every, b)), answer(x, r, err))
			resumes[codeOf(err)]++
			if r.Kind != 0 && tellResult(r) != tellResult(seqrun.Run(p)) {
				far++
			}
		}
	}
	for _, x := range []struct {
		what string
		of   map[api.Errno]int
		want []api.Errno
	}{
		{"Scan", scans, []api.Errno{api.OK, api.ErrShort, api.ErrForm, api.ErrSum, api.ErrMagic}},
		{"Recover", recovers, []api.Errno{api.OK, api.ErrTorn, api.ErrForm, api.ErrSum, api.ErrMagic, api.ErrOther, api.ErrPoint, api.ErrTrace}},
		{"Resume", resumes, []api.Errno{api.OK, api.ErrForm, api.ErrSum, api.ErrMagic, api.ErrOther, api.ErrPoint, api.ErrTrace, api.FaultUser}},
	} {
		for _, code := range x.want {
			if x.of[code] < 40 {
				t.Errorf("%s answers %d only %d times: %v", x.what, code, x.of[code], x.of)
			}
		}
	}
	if far < 300 {
		t.Errorf("only %d results are such as no run has", far)
	}
}

// 16.6: thrown plans, written down.
func TestThrownRecords(t *testing.T) {
	m := maker{chance: 166}
	for range 600 {
		p := m.plan(t)
		every := pick(&m.chance, 1, 1, 2, 3, 4, 7, 64)
		b, r, err := journal.Record(p, every)
		same(t, every, answer(b, r, err), answer(slowRecord(p, every)))
		same(t, every, scan(journal.Scan(b)), scan(len(kindsOf(b)), len(b), nil))
	}
}

// 0.1: thrown bytes, in records with right sums and without.
func TestThrownBytes(t *testing.T) {
	f := forger{chance: 1}
	p := clockwork()
	for range 20000 {
		var b []byte
		if f.below(2) == 0 {
			b = record('H', headLoad(slowDigest(p), uint64(1+f.below(3))))
		}
		for range f.below(4) {
			load := make([]byte, f.below(20))
			for i := range load {
				load[i] = pick(&f.chance, 0, 1, 2, byte(f.below(256)), 128)
			}
			if f.below(9) == 0 {
				b = append(b, load...)
			}
			b = append(b, record(pick(&f.chance, byte('P'), 'W', 'F', 'H'), load)...)
		}
		l, err := slowScan(b)
		same(t, b, scan(journal.Scan(b)), scan(len(l), slowBytes(l), err))
		same(t, b, point(journal.Recover(p, b)), point(slowRecover(p, b)))
		same(t, b, answer(journal.Resume(p, 2, b)), answer(slowResume(p, 2, b)))
	}
}
