package journal_test

import (
	"bytes"
	"testing"

	"horizon/api"
	"horizon/journal"
	"horizon/seqrun"
)

// long is a plan of as many windows as the budget allows: a clock that ticks by itself.
const long = `look 1 end 99999 budget 4096 kind k
type T { var n on k(x) { n = n - x send k(n) to me after 1 } }
place t : T
start k(1) to t at 0
`

// crowd is a plan whose every event sends sixteen more: pictures of tens of thousands of events.
const crowd = `look 1 end 99999999 budget 4096 fuel 4096 kind k
type T { on k(x) { let i = 0 while i < 16 { send k(i) to roll(3) after 1 + roll(5000) i = i + 1 } } }
place t[3] : T
start k(0) to t at 0
`

// 16.6, 16.10: as many windows and events as a run can have.
func TestMost(t *testing.T) {
	for _, x := range []struct {
		text  string
		every int
	}{{long, 1}, {long, 64}, {crowd, 64}} {
		p := scenario(t, x.text)
		j, r, err := journal.Record(p, x.every)
		if err != nil || r.Kind != api.Cut || len(r.Trace) != api.MaxBudget {
			t.Fatalf("every %d: %d events, %v", x.every, len(r.Trace), err)
		}
		windows := len(seqrun.Windows(p))
		if records, n, err := journal.Scan(j); records != 3+windows+windows/x.every || n != len(j) || err != nil {
			t.Errorf("every %d: %s", x.every, scan(records, n, err))
		}
		for _, n := range []int{len(j), len(j) - 1, len(j) * 9 / 10, len(j) / 2, len(j) / 97} {
			b, s, err := journal.Resume(p, x.every, j[:n])
			if !bytes.Equal(b, j) || tellResult(s) != tellResult(r) || err != nil {
				t.Errorf("every %d: cut at %d: another answer, %v", x.every, n, err)
			}
		}
	}
}
