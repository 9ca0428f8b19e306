package horizon_test

import (
	"encoding/binary"
	"fmt"
	"slices"
	"strings"
	"testing"

	"horizon/horizon"
	"horizon/stamp"
)

// records is where the records of a journal begin, and where it ends.
func records(b []byte) []int {
	at := []int{0}
	for last := 0; last < len(b); last = at[len(at)-1] {
		at = append(at, last+13+int(binary.LittleEndian.Uint32(b[last+1:])))
	}
	return at
}

// forged is the lines that change bytes of a record's load (from 0 on) and make its sum right again.
func forged(t *testing.T, text string, every, record int, changes map[int]byte) string {
	t.Helper()
	whole, err := loaded(t, text).Save(every)
	if err != nil {
		t.Fatal(err)
	}
	b := slices.Clone(whole)
	at := records(b)
	load := b[at[record]+9 : at[record+1]-4]
	for i, v := range changes {
		load[i] = v
	}
	binary.LittleEndian.PutUint32(b[at[record+1]-4:], stamp.Sum(load))
	var lines strings.Builder
	for i := range b {
		if b[i] != whole[i] {
			fmt.Fprintln(&lines, "spoil", i, b[i]-whole[i])
		}
	}
	return lines.String()
}

// oks is so many answers to spoil.
func oks(lines string) string { return strings.Repeat("ok\n", strings.Count(lines, "\n")) }

// 19.9: a journal that is spoilt so that its sums are right makes a last result that no run has: parts and kinds that are not there are told by their numbers.
func TestForgedTrace(t *testing.T) {
	// Window 1 is record 2; its load is the window's number, how many events, and six bytes for each of the two.
	lines := forged(t, clock, 1, 2, map[int]byte{5: 9, 6: 14, 9: 80, 12: 1})
	answers(t, model(clock)+"save 1\n"+lines+"scan\nresume 1\ntrace\ntally\nkinds\nbalance\nchain\nhistogram 5\nstate c 1\nscan\nrun seq\nchain\n", clockLoaded+"ok bytes 333 sum 3330392654\n"+oks(lines)+`ok records 9 bytes 333 whole
ok done events 6 bytes 333
ok 6
  0.0.0>-5:7=1
  0.40.0>1:-1=1
  5.0.1>0:0=2
  5.1.1>1:0=2
  10.0.2>0:0=3
  10.1.2>1:0=3
ok 4
  -5 events 1 sent 0 first 0 last 0
  c[0] events 2 sent 3 first 5 last 10
  c[1] events 3 sent 2 first 0 last 10
  40 events 0 sent 1 first 0 last 0
ok 3
  tick 4
  -1 1
  7 1
error 171
error 171
ok 3
  0 2
  5 2
  10 2
ok n=6
ok records 9 bytes 333 whole
ok done events 6
ok 3
  0 0.0.0>0:0=1
  2 5.0.1>0:0=2
  4 10.0.2>0:0=3
`)
}

// 19.8, 19.9: a picture that no run has, a window that does not follow: error at the byte; the last result and the journal stay.
func TestForgedRuns(t *testing.T) {
	begin := model(clock) + "run picks\nsave 1\n"
	told := horizon.Do(begin)
	whole, _ := loaded(t, clock).Save(1)
	at := records(whole)
	// Picture 3, record 7, says that it is picture 2: it may not come there, and is written anew.
	lines := forged(t, clock, 1, 7, map[int]byte{0: 2})
	answers(t, begin+lines+"scan\nresume 1\nscan\nbalance\n", told+oks(lines)+fmt.Sprintf("ok records 7 bytes %d error 12\nok done events 6 bytes 333\nok records 9 bytes 333 whole\nok 6\n", at[7]))
	// The last pending event of picture 3 is one to a part that is not there.
	load := at[8] - at[7] - 13
	lines = forged(t, clock, 1, 7, map[int]byte{load - 3: 4})
	answers(t, begin+lines+"resume 1\nbalance\nscan\n", told+oks(lines)+fmt.Sprintf("error 127 at byte %d\nok 0\nok records 9 bytes 333 whole\n", at[7]))
	// Window 3, record 6, behind picture 2 once picture 3 is cut away, has another event than the run.
	lines = forged(t, clock, 1, 6, map[int]byte{7: 60})
	answers(t, begin+lines+fmt.Sprintln("crash", at[7])+"resume 1\nbalance\nscan\n", told+oks(lines)+fmt.Sprintf("ok bytes %d\nerror 171 at byte %d\nok 0\nok records 7 bytes %d error 11\n", at[7], at[6], at[7]))
}

// 19.8, 19.9: a head that is none, or another plan's.
func TestForgedHeads(t *testing.T) {
	begin := model(clock) + "save 1\n"
	told := horizon.Do(begin)
	lines := forged(t, clock, 1, 0, map[int]byte{0: 'h'})
	answers(t, begin+lines+"scan\nresume 1\ntrace\n", told+oks(lines)+"ok records 0 bytes 0 error 160\nerror 160 at byte 0\nerror 193\n")
	lines = forged(t, clock, 1, 0, map[int]byte{8: 7})
	answers(t, begin+lines+"scan\nresume 1\ntrace\n", told+oks(lines)+"ok records 9 bytes 333 whole\nerror 161 at byte 0\nerror 193\n")
	lines = forged(t, clock, 1, 0, map[int]byte{12: 0})
	answers(t, begin+lines+"scan\nresume 1\ntrace\n", told+oks(lines)+"ok records 0 bytes 0 error 12\nerror 12 at byte 0\nerror 193\n")
}
