package journal_test

import (
	"bytes"
	"fmt"
	"slices"
	"testing"

	"horizon/api"
	"horizon/journal"
)

// roomy is a list with some room behind its end, in which something lies.
func roomy[T any](l []T, behind T) []T {
	out := append(make([]T, 0, len(l)+3), l...)
	spoil(out[len(out):cap(out)], behind)
	return out
}

var (
	junkPart  = api.Part{Program: 77, Words: []int64{77}}
	junkStart = api.Start{Time: 77, Dst: 77, Kind: 77, Data: 77}
	junkInstr = api.Instr{Op: api.IFail, A: 77, B: 77}
	junkEvent = api.Event{Key: api.Key{Time: 77, Src: 77, Seq: 77}, Dst: 77, Kind: 77, Data: 77}
)

func roomyPlan(p api.Plan) api.Plan {
	p.Programs, p.Parts, p.Starts = roomy(p.Programs, api.Program{Words: 77}), roomy(p.Parts, junkPart), roomy(p.Starts, junkStart)
	for i, g := range p.Programs {
		p.Programs[i].Code, p.Programs[i].Entry = roomy(g.Code, junkInstr), roomy(g.Entry, 77)
	}
	for i, part := range p.Parts {
		p.Parts[i].Words = roomy(part.Words, 77)
	}
	return p
}

// wholePlan is all that is in a plan, with what lies behind the ends of its lists.
func wholePlan(p api.Plan) string {
	p.Programs, p.Parts, p.Starts = slices.Clone(p.Programs[:cap(p.Programs)]), slices.Clone(p.Parts[:cap(p.Parts)]), p.Starts[:cap(p.Starts)]
	for i, g := range p.Programs {
		p.Programs[i].Code, p.Programs[i].Entry = g.Code[:cap(g.Code)], g.Entry[:cap(g.Entry)]
	}
	for i, part := range p.Parts {
		p.Parts[i].Words = part.Words[:cap(part.Words)]
	}
	return fmt.Sprint(p)
}

func spoilStates(l []api.State) {
	for _, v := range l {
		spoil(v.Words, 77)
	}
	spoil(l, api.State{Words: []int64{77}, Dice: 77, Sent: 77})
}

func spoilPlan(p api.Plan) {
	for _, g := range p.Programs {
		spoil(g.Code, junkInstr)
		spoil(g.Entry, 77)
	}
	for _, part := range p.Parts {
		spoil(part.Words, 77)
	}
	spoil(p.Parts, junkPart)
	spoil(p.Starts, junkStart)
}

// cuts is pieces of a journal, with room behind their ends, so that what is written on could fall into it.
func cuts(j []byte) (l [][]byte) {
	notes, _ := slowScan(j)
	l = append(l, roomy(j[:0], 77), roomy(j, 77))
	for _, x := range notes {
		l = append(l, append(make([]byte, 0, 2*len(j)), j[:x.from]...), append(make([]byte, 0, 2*len(j)), j[:x.from+1]...))
	}
	return l
}

// 0.4: no call changes what is handed in, nor what lies behind its lists.
func TestHandedInIsNotChanged(t *testing.T) {
	for _, p := range somePlans(t) {
		p = roomyPlan(p)
		plan := wholePlan(p)
		for _, every := range []int{1, 2} {
			j, _, _ := journal.Record(p, every)
			for _, b := range cuts(j) {
				kept := bytes.Clone(b[:cap(b)])
				journal.Scan(b)
				journal.Recover(p, b)
				journal.Resume(p, every, b)
				journal.Digest(p)
				if !bytes.Equal(b[:cap(b)], kept) {
					t.Fatal("the journal has changed")
				}
			}
		}
		if x := wholePlan(p); x != plan {
			t.Fatalf("the plan\n%s\nhas become\n%s", plan, x)
		}
	}
}

// 0.4: who writes over what was handed in changes no answer.
func TestHandedInIsNotKept(t *testing.T) {
	for i := range somePlans(t) {
		for _, every := range []int{1, 2} {
			p := somePlans(t)[i]
			j, _, _ := journal.Record(p, every)
			for c := range cuts(j) {
				p, b := roomyPlan(somePlans(t)[i]), cuts(j)[c]
				x, r, err := journal.Resume(p, every, b)
				at, number, why := journal.Recover(p, b)
				y, s, fault := journal.Record(p, every)
				resumed, recovered, recorded := answer(x, r, err), point(at, number, why), answer(y, s, fault)
				spoil(b, 77)
				spoilPlan(p)
				same(t, "Resume", answer(x, r, err), resumed)
				same(t, "Recover", point(at, number, why), recovered)
				same(t, "Record", answer(y, s, fault), recorded)
			}
		}
	}
}

// 0.4: what is handed out is nobody else's: not another answer's, nor what was handed in.
func TestHandedOutIsApart(t *testing.T) {
	for _, p := range somePlans(t) {
		p = roomyPlan(p)
		plan := wholePlan(p)
		j, _, _ := journal.Record(p, 1)
		for _, b := range cuts(j) {
			kept := bytes.Clone(b[:cap(b)])
			for _, call := range []func() ([]byte, api.Result, error){
				func() ([]byte, api.Result, error) { return journal.Record(p, 1) },
				func() ([]byte, api.Result, error) { return journal.Resume(p, 1, b) },
			} {
				x, r, err := call()
				want := answer(x, r, err)
				y, s, _ := call()
				spoil(y, 77)
				spoilStates(s.States)
				spoil(s.Trace, junkEvent)
				same(t, "beside a spoilt answer", answer(x, r, err), want)
				same(t, "asked again", answer(call()), want)
			}
			at, number, err := journal.Recover(p, b)
			want := point(at, number, err)
			other, _, _ := journal.Recover(p, b)
			spoilStates(other.States)
			spoil(other.Pending, junkEvent)
			spoil(other.Trace, junkEvent)
			same(t, "beside a spoilt point", point(at, number, err), want)
			if !bytes.Equal(b[:cap(b)], kept) || wholePlan(p) != plan {
				t.Fatal("an answer lies in what was handed in")
			}
		}
	}
}

// 0.4: no two lists of one answer share memory.
func TestListsOfOneAnswer(t *testing.T) {
	p := scenario(t, shop)
	j, r, err := journal.Record(p, 3)
	_, s, _ := journal.Resume(p, 3, j[:800])
	at, number, _ := journal.Recover(p, j[:800])
	trace, pending := texts(at.Trace), texts(at.Pending)
	for _, states := range [][]api.State{r.States, s.States, at.States} {
		for i, v := range states {
			others := tellStates(slices.Delete(slices.Clone(states), i, i+1))
			spoil(v.Words, 77)
			same(t, "the words of others", tellStates(slices.Delete(slices.Clone(states), i, i+1)), others)
		}
	}
	spoilStates(at.States)
	same(t, "the trace", texts(at.Trace), trace)
	spoil(at.Trace, junkEvent)
	same(t, "pending", texts(at.Pending), pending)
	if number == 0 || err != nil || trace == "" || pending == "" {
		t.Errorf("%d windows, %v, trace %s, pending %s", number, err, trace, pending)
	}
}

// 0.3: one call knows nothing of another: asked again, in whatever order, it answers the same.
func TestAskedAgain(t *testing.T) {
	plans := somePlans(t)
	var want []string
	for range 2 {
		var got []string
		for _, p := range plans {
			j, r, err := journal.Record(p, 2)
			got = append(got, answer(j, r, err), scan(journal.Scan(j[:len(j)-1])), point(journal.Recover(p, j)), fmt.Sprint(journal.Digest(p)))
		}
		if want != nil && !slices.Equal(got, want) {
			t.Fatal("the answers are others")
		}
		want = got
	}
}
