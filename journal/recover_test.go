package journal_test

import (
	"bytes"
	"errors"
	"math"
	"slices"
	"testing"

	"horizon/api"
	"horizon/journal"
	"horizon/seqrun"
)

// wantRecover holds Recover against what is asked, and against the words read slowly.
func wantRecover(t *testing.T, what any, p api.Plan, b []byte, want string) {
	t.Helper()
	same(t, what, point(journal.Recover(p, b)), want)
	same(t, what, point(slowRecover(p, b)), want)
}

// refusedAt is what Recover answers with an error at a byte.
func refusedAt(at int, code api.Errno) string { return point(api.Point{}, 0, atByte(at, code)) }

// behind is the point of a plan's run behind so many events.
func behind(t *testing.T, p api.Plan, events int) api.Point {
	t.Helper()
	s, code := seqrun.Open(p, first(t, p))
	if code != api.OK {
		t.Fatalf("Open is %d", code)
	}
	for range events {
		s.Step()
	}
	return s.Point()
}

// 16.8: behind each record, and within it, the point of the last window that is whole.
func TestRecoverPoints(t *testing.T) {
	p := clockwork() // windows of two events each
	for _, every := range []int{1, 2, 3, 4, 64} {
		j, _, _ := journal.Record(p, every)
		l, _ := slowScan(j)
		windows := 0
		for i, x := range l {
			if i >= 2 {
				for _, n := range []int{x.from, x.from + 1, x.from + 8, x.from + 9, x.to - 1} {
					wantRecover(t, n, p, j[:n], point(behind(t, p, 2*windows), windows, nil))
				}
			}
			if x.kind == 'W' {
				windows++
			}
		}
		wantRecover(t, "whole", p, j, point(behind(t, p, 6), 3, nil))
		wantRecover(t, "a byte too many", p, slices.Concat(j, []byte{9}), point(behind(t, p, 6), 3, nil))
	}
}

// 16.8: with fewer than two records: Scan's error, and ErrTorn where it is ErrShort.
func TestRecoverTorn(t *testing.T) {
	p := clockwork()
	j, _, _ := journal.Record(p, 2)
	l, _ := slowScan(j)
	for n := range l[1].to {
		at := 0
		if n >= l[0].to {
			at = l[0].to
		}
		wantRecover(t, n, p, j[:n], refusedAt(at, api.ErrTorn))
		b := bytes.Clone(j)
		b[n] ^= 128
		wantRecover(t, n, p, b, refusedAt(at, api.ErrSum))
	}
	wantRecover(t, "no head", p, j[l[1].from:], refusedAt(0, api.ErrMagic))
	wantRecover(t, "no picture", p, slices.Concat(j[:l[1].from], j[l[1].to:]), refusedAt(l[1].from, api.ErrForm))
	wantRecover(t, "no kind", p, record('Q', nil), refusedAt(0, api.ErrForm))
	_, _, err := journal.Recover(p, j[:50])
	if !errors.Is(err, api.ErrTorn) || errors.Is(err, api.ErrShort) {
		t.Errorf("the error is %s", tellErr(err))
	}
}

// 16.8: a journal of another plan, be it whole, torn behind its picture, or with a wrong picture.
func TestRecoverOther(t *testing.T) {
	p := clockwork()
	j, _, _ := journal.Record(p, 2)
	l, _ := slowScan(j)
	for _, q := range []api.Plan{small(), clockwork(budget(99)), clockwork(func(p *api.Plan) { p.Seed = 8 }), clockwork(end(15)), clockwork(func(p *api.Plan) { p.Fuel++ })} {
		wantRecover(t, "whole", q, j, refusedAt(0, api.ErrOther))
		wantRecover(t, "torn", q, j[:l[1].to], refusedAt(0, api.ErrOther))
		wantRecover(t, "no digest to look at", q, j[:l[1].to-1], refusedAt(l[1].from, api.ErrTorn))
		wrong := slices.Concat(j[:l[0].to], record('P', pictureLoad(0, api.Point{States: make([]api.State, 9)})))
		wantRecover(t, "a wrong picture", q, wrong, refusedAt(0, api.ErrOther))
	}
}

// wrongPoints is, of a point of clockwork, what seqrun.Open does not take.
func wrongPoints() map[string]func(at *api.Point) {
	return map[string]func(at *api.Point){
		"a state too few":   func(at *api.Point) { at.States = at.States[:1] },
		"a state too many":  func(at *api.Point) { at.States = append(at.States, at.States[0]) },
		"no state":          func(at *api.Point) { at.States = nil },
		"a word too few":    func(at *api.Point) { at.States[1].Words = nil },
		"a word too many":   func(at *api.Point) { at.States[0].Words = []int64{1, 2} },
		"Sent too large":    func(at *api.Point) { at.States[0].Sent = 1<<62 + 1 },
		"Sent much larger":  func(at *api.Point) { at.States[0].Sent = math.MaxUint64 },
		"Sent too small":    func(at *api.Point) { at.States[0].Sent = 0 },
		"another order":     func(at *api.Point) { slices.Reverse(at.Pending) },
		"an event twice":    func(at *api.Point) { at.Pending = append(at.Pending, at.Pending[1]) },
		"no part":           func(at *api.Point) { at.Pending[0].Dst = 2 },
		"no part at all":    func(at *api.Point) { at.Pending[0].Dst = -1 },
		"no kind":           func(at *api.Point) { at.Pending[0].Kind = 1 },
		"no kind at all":    func(at *api.Point) { at.Pending[0].Kind = -1 },
		"no sender":         func(at *api.Point) { at.Pending[0].Key.Src = -1 },
		"another sender":    func(at *api.Point) { at.Pending[1].Key.Src = 2 },
		"a Seq not yet":     func(at *api.Point) { at.Pending[1].Key.Seq = 9 },
		"a Seq of any size": func(at *api.Point) { at.Pending[1].Key.Seq = math.MaxUint64 },
	}
}

// 16.8: a last picture that seqrun does not take, be it the picture 0 or another one.
func TestRecoverWrongPicture(t *testing.T) {
	p := clockwork()
	j, _, _ := journal.Record(p, 1)
	l, _ := slowScan(j)
	for what, change := range wrongPoints() {
		for picture, i := range []int{1, 3, 5, 7} {
			at := behind(t, p, 2*picture)
			change(&at)
			b := slices.Concat(j[:l[i].from], record('P', pictureLoad(uint64(picture), at)))
			wantRecover(t, what, p, b, refusedAt(l[i].from, api.ErrPoint))
			wantRecover(t, what+", a window behind it", p, slices.Concat(b, j[l[i].to:l[i+1].to]), refusedAt(l[i].from, api.ErrPoint))
			if i < 7 {
				// A later picture that is right is what counts.
				wantRecover(t, what+", later right", p, slices.Concat(b, j[l[i].to:l[i+2].to]), point(behind(t, p, 2*picture+2), picture+1, nil))
			}
		}
	}
}

// 16.8: as many events as the budget has may stand ahead of a picture, and not one more; what they are is not looked at.
func TestRecoverBudget(t *testing.T) {
	p := clockwork(budget(5))
	b := slices.Concat(record('H', headLoad(slowDigest(p), 1)), record('P', pictureLoad(0, first(t, p))))
	for events := range 9 {
		made := slices.Repeat([]api.Event{{Dst: -7, Kind: 99}}, events)
		j := slices.Concat(b, record('W', windowLoad(1, made)))
		at := len(j)
		j = append(j, record('P', pictureLoad(1, first(t, p)))...)
		if events > 5 {
			wantRecover(t, events, p, j, refusedAt(at, api.ErrPoint))
			continue
		}
		from := first(t, p)
		from.Trace = made
		wantRecover(t, events, p, j, point(from, 1, nil))
	}
}

// 16.8: window records behind the last picture must be the next windows of the run; ahead of it they are not looked at.
func TestRecoverWrongWindow(t *testing.T) {
	p := clockwork()
	l := seqrun.Run(p).Trace
	j, _, _ := journal.Record(p, 64)
	notes, _ := slowScan(j)
	changed := func(l []api.Event, change func(e *api.Event)) []api.Event {
		l = slices.Clone(l)
		change(&l[0])
		return l
	}
	for window, i := range []int{2, 3, 4} {
		right := l[2*window : 2*window+2]
		for what, made := range map[string][]api.Event{
			"nothing":       {},
			"one too few":   right[:1],
			"the second":    right[1:],
			"another order": {right[1], right[0]},
			"one too many":  append(slices.Clone(right), l[(2*window+2)%6]),
			"one twice":     {right[0], right[0], right[1]},
			"a time":        changed(right, func(e *api.Event) { e.Key.Time++ }),
			"a sender":      changed(right, func(e *api.Event) { e.Key.Src = 1 }),
			"a number":      changed(right, func(e *api.Event) { e.Key.Seq++ }),
			"a part":        changed(right, func(e *api.Event) { e.Dst = 1 }),
			"a kind":        changed(right, func(e *api.Event) { e.Kind = 1 }),
			"a word":        changed(right, func(e *api.Event) { e.Data-- }),
		} {
			b := slices.Concat(j[:notes[i].from], record('W', windowLoad(uint64(window+1), made)))
			wantRecover(t, what, p, b, refusedAt(notes[i].from, api.ErrTrace))
			b = append(b, record('W', windowLoad(uint64(window+2), nil))...)
			wantRecover(t, what+", another behind it", p, b, refusedAt(notes[i].from, api.ErrTrace))
		}
	}
}

// 16.8: a run that is over has no next window, whatever a record says: done, cut, or failed; not even one of no event.
func TestRecoverBehindTheEnd(t *testing.T) {
	for _, p := range []api.Plan{clockwork(), clockwork(budget(3)), clockwork(budget(0)), scenario(t, breaks), clockwork(look(6)), small(end(0))} {
		j, r, _ := journal.Record(p, 64)
		l, _ := slowScan(j)
		ended := l[len(l)-1].from
		number := uint64(len(l) - 2)
		for _, made := range [][]api.Event{nil, {{}}, r.Trace, behind(t, p, len(r.Trace)).Pending} {
			b := slices.Concat(j[:ended], record('W', windowLoad(number, made)))
			wantRecover(t, texts(made), p, b, refusedAt(ended, api.ErrTrace))
		}
	}
}

// 16.8: the run goes on from what the last picture says, whether a run would ever have come there or not.
func TestRecoverForged(t *testing.T) {
	p := clockwork()
	j, _, _ := journal.Record(p, 1)
	l, _ := slowScan(j)
	at := behind(t, p, 2)
	at.States[0].Words[0], at.States[1].Dice, at.States[0].Sent = -5, 1234, 50
	at.Pending = []api.Event{{Key: api.Key{Time: 1, Src: 1}, Dst: 0, Data: 44}}
	b := slices.Concat(j[:l[3].from], record('P', pictureLoad(1, at)))
	wantRecover(t, "the picture", p, b, point(at, 1, nil))
	s, _ := seqrun.Open(p, at)
	s.Step()
	b = append(b, record('W', windowLoad(2, at.Pending))...)
	wantRecover(t, "a window behind it", p, b, point(s.Point(), 2, nil))
	ended := record('F', []byte{9, 9, 9, 9, 9})
	wantRecover(t, "an end", p, slices.Concat(j[:l[3].from], record('P', pictureLoad(1, at)), ended), point(at, 1, nil))
	wantRecover(t, "a window, no picture, an end", p, slices.Concat(b, ended), point(s.Point(), 2, nil))
}
