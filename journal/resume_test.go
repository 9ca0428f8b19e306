package journal_test

import (
	"bytes"
	"errors"
	"slices"
	"testing"

	"horizon/api"
	"horizon/journal"
	"horizon/seqrun"
)

// wantResume holds Resume against what is asked, and against the words read slowly.
func wantResume(t *testing.T, what any, p api.Plan, every int, b []byte, want string) {
	t.Helper()
	same(t, what, answer(journal.Resume(p, every, b)), want)
	same(t, what, answer(slowResume(p, every, b)), want)
}

// noResume is what Resume answers with an error at a byte.
func noResume(at int, code api.Errno) string { return answer(nil, api.Result{}, atByte(at, code)) }

// 16.9: a journal that is torn ahead of its picture 0 is begun anew, whoever's it was, and whatever its every was.
func TestResumeTorn(t *testing.T) {
	p := clockwork()
	j, _, _ := journal.Record(p, 2)
	l, _ := slowScan(j)
	for n := range l[1].to {
		for _, every := range []int{1, 2, 64} {
			wantResume(t, n, p, every, j[:n], answer(journal.Record(p, every)))
			wantResume(t, n, small(), every, j[:n], answer(journal.Record(small(), every)))
		}
	}
}

// 16.9: a journal that is wrong ahead of its picture's end is not begun anew.
func TestResumeWrongBeginning(t *testing.T) {
	p := clockwork()
	j, _, _ := journal.Record(p, 2)
	l, _ := slowScan(j)
	for n := range l[1].to {
		b := bytes.Clone(j)
		b[n]++
		at := 0
		if n >= l[0].to {
			at = l[0].to
		}
		wantResume(t, n, p, 2, b, noResume(at, api.ErrSum))
	}
	wantResume(t, "no head", p, 2, j[l[1].from:], noResume(0, api.ErrMagic))
	wantResume(t, "no picture", p, 2, slices.Concat(j[:l[0].to], j[l[1].to:]), noResume(l[0].to, api.ErrForm))
	wantResume(t, "no kind", p, 2, record('?', nil), noResume(0, api.ErrForm))
}

// 16.9: another plan, another every, and which of several errors is told.
func TestResumeOther(t *testing.T) {
	p := clockwork()
	j, _, _ := journal.Record(p, 2)
	l, _ := slowScan(j)
	for _, every := range []int{1, 3, 64} {
		wantResume(t, every, p, every, j, noResume(0, api.ErrOther))
		wantResume(t, every, p, every, j[:l[1].to], noResume(0, api.ErrOther))
	}
	wantResume(t, "another plan", clockwork(budget(7)), 2, j, noResume(0, api.ErrOther))
	wrong := slices.Concat(j[:l[0].to], record('P', pictureLoad(0, api.Point{})))
	wantResume(t, "a wrong picture", p, 2, wrong, noResume(l[1].from, api.ErrPoint))
	wantResume(t, "a wrong picture and another every", p, 3, wrong, noResume(l[1].from, api.ErrPoint))
	wrong = slices.Concat(j[:l[1].to], record('W', windowLoad(1, nil)))
	wantResume(t, "a wrong window and another every", p, 3, wrong, noResume(l[1].to, api.ErrTrace))
	wantResume(t, "a wrong window and another plan", small(), 3, wrong, noResume(0, api.ErrOther))
}

// 16.9: an end record is not believed: it is written anew, and what is behind it is left out.
func TestResumeEnd(t *testing.T) {
	for _, p := range []api.Plan{clockwork(), clockwork(budget(3)), scenario(t, breaks), clockwork(look(6))} {
		for _, every := range []int{1, 2, 3} {
			j, r, err := journal.Record(p, every)
			l, _ := slowScan(j)
			ended := l[len(l)-1].from
			want := answer(j, r, err)
			wantResume(t, "whole", p, every, j, want)
			wantResume(t, "bytes behind it", p, every, slices.Concat(j, []byte("more")), want)
			wantResume(t, "another end", p, every, slices.Concat(j[:ended], record('F', []byte{7, 7, 7, 7, 7})), want)
			wantResume(t, "another end, bytes behind it", p, every, slices.Concat(j[:ended], record('F', []byte{7, 7, 7, 7, 7}), j), want)
			for _, x := range l[2:] {
				if x.kind != 'P' { // a picture may be due there
					early := slices.Concat(j[:x.from], record('F', []byte{1, 0, 0, 0, 0}))
					wantResume(t, "an early end", p, every, early, want)
				}
			}
		}
	}
}

// 16.9: a picture that is due and not there is written.
func TestResumeDue(t *testing.T) {
	for _, p := range []api.Plan{clockwork(), clockwork(budget(3)), scenario(t, breaks)} {
		for _, every := range []int{1, 2, 3} {
			j, r, err := journal.Record(p, every)
			l, _ := slowScan(j)
			for _, x := range l[2:] {
				if x.kind == 'P' {
					wantResume(t, x.from, p, every, j[:x.from], answer(j, r, err))
				}
			}
		}
	}
}

// 16.9: what stands in window records ahead of the last picture stands in the result's trace, be it what it may.
func TestResumeForgedTrace(t *testing.T) {
	p := clockwork()
	j, r, _ := journal.Record(p, 1)
	l, _ := slowScan(j)
	made := []api.Event{{Dst: -7, Kind: 99}, {Key: api.Key{Time: 5000}}}
	b := slices.Concat(j[:l[2].from], record('W', windowLoad(1, made)), j[l[3].from:])
	got, s, err := journal.Resume(p, 1, b[:len(b)-3])
	if err != nil || !bytes.Equal(got, b) || s.Kind != api.Done || texts(s.Trace) != texts(slices.Concat(made, r.Trace[2:])) || tellStates(s.States) != tellStates(r.States) {
		t.Errorf("the answer is %s, %v", tellResult(s), err)
	}
	wantResume(t, "forged", p, 1, b, answer(got, s, err))
}

// 16.9: a run from a forged picture goes on as it must, though no run of the plan has ever been there.
func TestResumeForgedPicture(t *testing.T) {
	p := clockwork()
	j, _, _ := journal.Record(p, 1)
	l, _ := slowScan(j)
	at := behind(t, p, 2)
	at.States[0].Words[0], at.States[0].Sent = -5, 50
	at.Pending = []api.Event{{Key: api.Key{Time: 1, Src: 1}, Dst: 0, Data: 44}}
	b := slices.Concat(j[:l[3].from], record('P', pictureLoad(1, at)))
	got, r, err := journal.Resume(p, 1, b)
	if err != nil || !bytes.HasPrefix(got, b) || r.Kind != api.Done || r.States[0].Words[0] != -2 || len(r.Trace) != 5 {
		t.Errorf("the answer is %s, %v", tellResult(r), err)
	}
	wantResume(t, "forged", p, 1, b, answer(got, r, err))
}

// 0.1, 16.8, 16.9: behind a picture whose Sent is the largest that seqrun takes a run goes on, though no run can be opened at the points that it comes to.
func TestMostSent(t *testing.T) {
	p := clockwork()
	at := first(t, p)
	at.States[0].Sent = 1 << 62
	for _, every := range []int{1, 2, 3, 64} {
		b := slices.Concat(record('H', headLoad(slowDigest(p), uint64(every))), record('P', pictureLoad(0, at)))
		want := answer(slowResume(p, every, b))
		wantResume(t, every, p, every, b, want)
		s, _ := seqrun.Open(p, at)
		for number := 1; number <= 3; number++ {
			b = append(b, record('W', windowLoad(uint64(number), nextWindow(p, s)))...)
			wantRecover(t, every, p, b, point(s.Point(), number, nil))
			wantResume(t, every, p, every, b, want)
			if number%every == 0 {
				from := len(b)
				b = append(b, record('P', pictureLoad(uint64(number), s.Point()))...)
				wantRecover(t, every, p, b, refusedAt(from, api.ErrPoint))
				wantResume(t, every, p, every, b, noResume(from, api.ErrPoint))
				break
			}
		}
	}
}

// 16.9: a run that ends with a fault is told by a *api.KeyError, with journal and result.
func TestResumeFault(t *testing.T) {
	p := scenario(t, breaks)
	j, r, _ := journal.Record(p, 2)
	b, s, err := journal.Resume(p, 2, j[:len(j)/2])
	var at *api.KeyError
	if !errors.As(err, &at) || at.Key != r.At || !errors.Is(err, api.FaultUser) || !bytes.Equal(b, j) || tellResult(s) != tellResult(r) {
		t.Errorf("the answer is %s, %v", tellResult(s), err)
	}
}
