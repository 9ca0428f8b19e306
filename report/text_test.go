package report_test

import (
	"math"
	"slices"
	"testing"

	"horizon/api"
	"horizon/kernel"
	"horizon/report"
	"horizon/seqrun"
)

// 17.9: the first line by kind; what a kind doesn't use is not told.
func TestTextOutcome(t *testing.T) {
	all := api.Result{Code: api.FaultTime, At: api.Key{Time: 7, Src: -1, Seq: 2}, Window: 12}
	for _, x := range []struct {
		kind int
		want string
	}{
		{api.Done, "done"},
		{api.Cut, "cut"},
		{api.Fault, "fault 206 at 7.-1.2"},
		{api.Resource, "resource 12"},
		{api.Unfinished, "unfinished"},
		{api.Rejected, "rejected 206"},
		{0, "result 0"},
		{7, "result 7"},
		{-1, "result -1"},
		{math.MaxInt, "result 9223372036854775807"},
		{math.MinInt, "result -9223372036854775808"},
	} {
		all.Kind = x.kind
		same(t, x.kind, report.Text(all), x.want+"\nevents 0\n")
	}
}

// 17.9: numbers of any size and sign.
func TestTextNumbers(t *testing.T) {
	for _, x := range []struct {
		r    api.Result
		want string
	}{
		{api.Result{Kind: api.Fault, Code: -3, At: api.Key{Time: math.MaxUint64, Src: math.MinInt, Seq: math.MaxUint64}}, "fault -3 at 18446744073709551615.-9223372036854775808.18446744073709551615\nevents 0\n"},
		{api.Result{Kind: api.Resource, Window: -4}, "resource -4\nevents 0\n"},
		{api.Result{Kind: api.Rejected, Code: 0}, "rejected 0\nevents 0\n"},
		{api.Result{Kind: api.Done, States: []api.State{{}, {Words: []int64{-1, math.MinInt64, math.MaxInt64}, Dice: math.MaxUint64, Sent: math.MaxUint64}}}, "done\nevents 0\npart 0: dice 0 sent 0\npart 1: -1 -9223372036854775808 9223372036854775807 dice 18446744073709551615 sent 18446744073709551615\n"},
		{api.Result{Kind: api.Rejected, States: []api.State{{Words: []int64{0}}}, Trace: []api.Event{{Dst: -1, Kind: -2, Data: -3}}}, "rejected 0\nevents 1\npart 0: 0 dice 0 sent 0\n0.0.0>-1:-2=-3\n"},
	} {
		same(t, x.r, report.Text(x.r), x.want)
	}
}

// 17.9: results of runs of each kind.
func TestTextOfRuns(t *testing.T) {
	p := clockwork(func(p *api.Plan) { p.Look = 6 })
	same(t, "a fault", firstLines(report.Text(seqrun.Run(p)), 2), "fault 205 at 0.0.0\nevents 0\n")
	same(t, "rejected", report.Text(seqrun.Run(api.Plan{})), "rejected 123\nevents 0\n")
	p = clockwork()
	l, code := kernel.Spread(p, 2, 1)
	if code != api.OK {
		t.Fatalf("Spread is %d", code)
	}
	r, _ := kernel.Fair(p, l, kernel.Enough(p, l))
	same(t, "done", report.Text(r), report.Text(seqrun.Run(p)))
	r, _ = kernel.Fair(p, l, 1)
	same(t, "unfinished", firstLines(report.Text(r), 2), "unfinished\nevents 0\n")
	l.Arena = 1
	r, _ = kernel.Fair(clockwork(func(p *api.Plan) { p.Programs[0].Code = twice(p.Programs[0].Code) }), l, 1000)
	same(t, "no room", firstLines(report.Text(r), 2), "resource 1\nevents 0\n")
}

// twice is a handler that sends two events where it sent one.
func twice(code []api.Instr) []api.Instr { return slices.Concat(code[:4], code) }

func firstLines(s string, n int) string {
	for i := range s {
		if s[i] == '\n' {
			n--
		}
		if n == 0 {
			return s[:i+1]
		}
	}
	return s
}
