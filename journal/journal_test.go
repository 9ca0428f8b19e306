package journal_test

import (
	"bytes"
	"math"
	"slices"
	"testing"

	"horizon/api"
	"horizon/journal"
	"horizon/seqrun"
	"horizon/stamp"
)

// kindsOf is the letters of a journal's records.
func kindsOf(b []byte) string {
	var s []byte
	l, _ := slowScan(b)
	for _, x := range l {
		s = append(s, x.kind)
	}
	return string(s)
}

// loadOf is the load of a journal's record.
func loadOf(b []byte, i int) []byte {
	l, _ := slowScan(b)
	return b[l[i].from+9 : l[i].to-4]
}

// 16.4, 16.6: the chapter's first example, and the loads of its window and its end.
func TestExampleRecords(t *testing.T) {
	for every, want := range map[int]string{1: "HPWPF", 2: "HPWF", 64: "HPWF"} {
		b, r, err := journal.Record(small(), every)
		if err != nil || kindsOf(b) != want || r.Kind != api.Done || texts(r.Trace) != "3.0.0>0:0=0" {
			t.Errorf("every %d: %s, %s, %v", every, kindsOf(b), tellResult(r), err)
		}
		if l := loadOf(b, 2); !slices.Equal(l, []byte{1, 1, 3, 0, 0, 0, 0, 0}) {
			t.Errorf("every %d: the load of W 1 is %v", every, l)
		}
		if l := loadOf(b, len(want)-1); !slices.Equal(l, []byte{1, 0, 0, 0, 0}) {
			t.Errorf("every %d: the load of F is %v", every, l)
		}
	}
}

// 16.7 to 16.9: the chapter's example of no bytes.
func TestExampleNothing(t *testing.T) {
	for _, b := range [][]byte{nil, {}} {
		same(t, "Scan", scan(journal.Scan(b)), scan(0, 0, atByte(0, api.ErrShort)))
		same(t, "Recover", point(journal.Recover(small(), b)), point(api.Point{}, 0, atByte(0, api.ErrTorn)))
		same(t, "Resume", answer(journal.Resume(small(), 1, b)), answer(journal.Record(small(), 1)))
	}
}

// 16.2, 16.3: the bytes of a whole journal, written out by hand but for what dice.Seed gives.
func TestWholeJournal(t *testing.T) {
	dice := first(t, small()).States[0].Dice
	frame := func(kind byte, load ...byte) []byte {
		front := []byte{kind, byte(len(load)), 0, 0, 0}
		return slices.Concat(front, four(sum(front)), load, four(sum(load)))
	}
	picture := func(number byte, pending ...byte) []byte {
		return frame(80, slices.Concat([]byte{number, 1, 0}, unsigned(dice), []byte{1}, pending)...)
	}
	want := slices.Concat(
		frame(72, slices.Concat([]byte{72, 79, 82, 73, 90, 79, 78, 49}, four(journal.Digest(small())), []byte{1})...),
		picture(0, 1, 3, 0, 0, 0, 0, 0),
		frame(87, 1, 1, 3, 0, 0, 0, 0, 0),
		picture(1, 0),
		frame(70, 1, 0, 0, 0, 0),
	)
	if b, _, _ := journal.Record(small(), 1); !bytes.Equal(b, want) {
		t.Errorf("the journal is\n%v\nnot\n%v", b, want)
	}
}

// 16.3: numbers of many bytes, with sign and without, in pictures, windows and ends.
func TestGreatNumbers(t *testing.T) {
	p := clockwork(func(p *api.Plan) {
		p.Parts[0].Words[0], p.Parts[1].Words[0] = math.MinInt64, math.MaxInt64
		p.Starts[0] = api.Start{Time: math.MaxUint64 - 12, Data: math.MinInt64}
		p.Starts[1] = api.Start{Time: math.MaxUint64 - 11, Dst: 1, Data: math.MaxInt64}
	}, end(math.MaxUint64))
	for _, every := range []int{1, 2, 3} {
		b, r, err := journal.Record(p, every)
		same(t, every, answer(b, r, err), answer(slowRecord(p, every)))
		if r.Kind != api.Fault || r.Code != api.FaultTime || r.At != (api.Key{Time: math.MaxUint64 - 2, Seq: 2}) {
			t.Errorf("the run ends with %s", tellResult(r))
		}
		same(t, every, scan(journal.Scan(b)), scan(len(kindsOf(b)), len(b), nil))
	}
}

// desk is the model of chapter 19's examples.
const desk = `look 5 end 14 seed 7
kind tick
type Clock { var n on tick(x) { send tick(x + 1) to me after 5 n = n + x } }
place c[2] : Clock
start tick(1) to c at 0
`

// DOC.md's examples 2 and 9: lengths and sums of journals, what a crash and a spoilt byte leave of them, going on.
func TestWholeExamples(t *testing.T) {
	p := scenario(t, desk)
	b, r, err := journal.Record(p, 1)
	if len(b) != 333 || stamp.Sum(b) != 3330392654 {
		t.Errorf("the journal of the clocks has %d bytes, sum %d", len(b), stamp.Sum(b))
	}
	same(t, "crash 60", scan(journal.Scan(b[:60])), scan(1, 26, atByte(26, api.ErrShort)))
	same(t, "resume", answer(journal.Resume(p, 1, b[:60])), answer(b, r, err))

	p = scenario(t, shop)
	b, r, err = journal.Record(p, 3)
	if len(b) != 1717 || stamp.Sum(b) != 2333105083 || r.Kind != api.Done || len(r.Trace) != 52 {
		t.Errorf("the journal of the shop has %d bytes, sum %d", len(b), stamp.Sum(b))
	}
	same(t, "crash 400", scan(journal.Scan(b[:400])), scan(9, 355, atByte(355, api.ErrShort)))
	same(t, "resume", answer(journal.Resume(p, 3, b[:400])), answer(b, r, err))
	same(t, "scan", scan(journal.Scan(b)), scan(41, 1717, nil))
	spoilt := bytes.Clone(b)
	spoilt[200] += 9
	same(t, "spoil 200 9", scan(journal.Scan(spoilt)), scan(5, 190, atByte(190, api.ErrSum)))
	same(t, "resume", answer(journal.Resume(p, 3, spoilt)), answer(b, r, err))
	same(t, "resume 4", answer(journal.Resume(p, 4, b)), answer(nil, api.Result{}, atByte(0, api.ErrOther)))
}

// wrongPlans is a plan for each error of seqrun.Valid.
func wrongPlans() map[api.Errno]api.Plan {
	return map[api.Errno]api.Plan{
		api.ErrKinds:    small(func(p *api.Plan) { p.Kinds = 33 }),
		api.ErrPrograms: small(func(p *api.Plan) { p.Kinds = 2 }),
		api.ErrParts:    small(func(p *api.Plan) { p.Parts[0].Program = 1 }),
		api.ErrStarts:   small(func(p *api.Plan) { p.Starts[0].Dst = -1 }),
		api.ErrLook:     {},
		api.ErrBudget:   small(budget(-1)),
		api.ErrFuel:     small(func(p *api.Plan) { p.Fuel = 0 }),
	}
}

// 16.6, 16.8, 16.9: a plan that is not valid is refused ahead of all else.
func TestWrongPlans(t *testing.T) {
	j, _, _ := journal.Record(small(), 1)
	for code, p := range wrongPlans() {
		for _, every := range []int{0, 1, 2} {
			same(t, code, answer(journal.Record(p, every)), answer(nil, api.Result{}, code))
			for _, b := range [][]byte{nil, j[:30], j, {1, 2, 3, 4, 5, 6, 7, 8, 9}} {
				same(t, code, answer(journal.Resume(p, every, b)), answer(nil, api.Result{}, code))
				same(t, code, point(journal.Recover(p, b)), point(api.Point{}, 0, code))
			}
		}
	}
}

// 16.6, 16.9: every is from 1 to 64, and asked ahead of the journal's bytes.
func TestWrongEvery(t *testing.T) {
	j, _, _ := journal.Record(small(), 1)
	for _, every := range []int{0, -1, 65, 256 + 1, math.MinInt, math.MaxInt} {
		want := answer(nil, api.Result{}, api.ErrEvery)
		same(t, every, answer(journal.Record(small(), every)), want)
		for _, b := range [][]byte{nil, j, {1, 2, 3, 4, 5, 6, 7, 8, 9}} {
			same(t, every, answer(journal.Resume(small(), every, b)), want)
		}
	}
	for every := 1; every <= api.MaxEvery; every++ {
		same(t, every, answer(journal.Record(clockwork(), every)), answer(slowRecord(clockwork(), every)))
	}
}

// 16.1, 16.4: runs without any window: nothing to do, no budget, a first event that fails.
func TestNoWindow(t *testing.T) {
	for _, x := range []struct {
		what string
		p    api.Plan
		kind int
	}{
		{"nothing in the plan", api.Plan{Look: 1, Fuel: 1}, api.Done},
		{"no starts", small(func(p *api.Plan) { p.Starts = nil }), api.Done},
		{"the end first", small(end(3)), api.Done},
		{"no budget", small(budget(0)), api.Cut},
		{"a fault", clockwork(look(6)), api.Fault},
	} {
		for _, every := range []int{1, 2, 64} {
			b, r, err := journal.Record(x.p, every)
			if kindsOf(b) != "HPF" || r.Kind != x.kind {
				t.Errorf("%s: %s, %s", x.what, kindsOf(b), tellResult(r))
			}
			same(t, x.what, answer(b, r, err), answer(slowRecord(x.p, every)))
			same(t, x.what, point(journal.Recover(x.p, b)), point(first(t, x.p), 0, nil))
		}
	}
}

// 16.1, 16.4: a last window that is cut short by the budget or by a fault; its picture is there, if it is due.
func TestCutShort(t *testing.T) {
	for _, x := range []struct {
		what  string
		p     api.Plan
		every int
		want  string
		last  int // events of the last window
	}{
		{"budget", clockwork(budget(3)), 2, "HPWWPF", 1},
		{"budget", clockwork(budget(3)), 1, "HPWPWPF", 1},
		{"budget", clockwork(budget(3)), 3, "HPWWF", 1},
		{"a whole one", clockwork(budget(4)), 2, "HPWWPF", 2},
		{"fault", scenario(t, breaks), 3, "HPWWWPF", 1},
		{"fault", scenario(t, breaks), 2, "HPWWPWF", 1},
	} {
		b, r, err := journal.Record(x.p, x.every)
		if kindsOf(b) != x.want {
			t.Errorf("%s: the records are %s", x.what, kindsOf(b))
		}
		l, _ := slowScan(b)
		i := bytes.LastIndexByte([]byte(x.want), 'W')
		if len(l[i].events) != x.last {
			t.Errorf("%s: the last window has the events %s", x.what, texts(l[i].events))
		}
		same(t, x.what, answer(b, r, err), answer(slowRecord(x.p, x.every)))
	}
}

// 16.6: a fault is told by the error; journal and result are there.
func TestRecordFault(t *testing.T) {
	p := scenario(t, breaks)
	b, r, err := journal.Record(p, 2)
	want := &api.KeyError{Key: api.Key{Time: 23, Src: 1, Seq: 2}, Err: api.FaultUser}
	if tellErr(err) != tellErr(want) || len(b) == 0 || tellResult(r) != tellResult(seqrun.Run(p)) {
		t.Errorf("%s, %s", tellErr(err), tellResult(r))
	}
	if l := loadOf(b, 6); !slices.Equal(l, []byte{3, 209, 1, 23, 2, 2}) {
		t.Errorf("the load of F is %v", l)
	}
}

// 16.1: windows are seqrun's, and the result is seqrun.Run's.
func TestWindowsOfRun(t *testing.T) {
	m := maker{chance: 161}
	for range 200 {
		p := m.plan(t)
		b, r, _ := journal.Record(p, 1+m.below(5))
		same(t, "the result", tellResult(r), tellResult(seqrun.Run(p)))
		var events []int
		l, _ := slowScan(b)
		for _, x := range l {
			if x.kind == 'W' {
				events = append(events, len(x.events))
			}
		}
		for i, w := range seqrun.Windows(p) {
			if i >= len(events) || events[i] != w.Events {
				t.Fatalf("the windows have %v events, not %v", events, seqrun.Windows(p))
			}
		}
	}
}
