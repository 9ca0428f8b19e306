package journal_test

import (
	"bytes"
	"slices"
	"testing"

	"horizon/api"
	"horizon/journal"
	"horizon/seqrun"
)

// somePlans is plans whose runs end in all ways.
func somePlans(t *testing.T) []api.Plan {
	return []api.Plan{
		small(), clockwork(), clockwork(budget(3)), clockwork(look(6)), clockwork(end(0)), scenario(t, breaks), scenario(t, desk),
		{Look: 1, Fuel: 1},
	}
}

// crashes holds 16.10 at every length of a journal.
func crashes(t *testing.T, p api.Plan, every int) {
	t.Helper()
	j, r, err := journal.Record(p, every)
	want := answer(j, r, err)
	events := []int{0} // behind each number of windows
	for _, w := range seqrun.Windows(p) {
		events = append(events, events[len(events)-1]+w.Events)
	}
	points := map[int]string{}
	for number, n := range events {
		points[number] = point(behind(t, p, n), number, nil)
	}
	whole, _ := slowScan(j)
	for n := range len(j) + 1 {
		b := slices.Clip(j[:n])
		if got := answer(journal.Resume(p, every, b)); got != want {
			t.Fatalf("16.10: cut at %d: the answer is\n%s\nnot\n%s", n, got, want)
		}
		l := whole
		for len(l) > 0 && l[len(l)-1].to > n {
			l = l[:len(l)-1]
		}
		if len(l) < 2 {
			same(t, n, point(journal.Recover(p, b)), refusedAt(slowBytes(l), api.ErrTorn))
			continue
		}
		same(t, n, point(journal.Recover(p, b)), points[int(countKind(l, 'W'))])
	}
}

// 16.10: plans whose runs end in all ways.
func TestCrashes(t *testing.T) {
	for _, p := range somePlans(t) {
		for _, every := range []int{1, 2, 3, 64} {
			crashes(t, p, every)
		}
	}
	crashes(t, scenario(t, shop), 3)
}

// 16.10: thrown plans.
func TestThrownCrashes(t *testing.T) {
	m := maker{chance: 1610}
	for range 60 {
		crashes(t, m.plan(t), 1+m.below(5))
	}
}

// changes holds 16.11 at every byte behind the picture 0.
func changes(t *testing.T, p api.Plan, every int, by ...byte) {
	t.Helper()
	j, r, err := journal.Record(p, every)
	want := answer(j, r, err)
	whole, _ := slowScan(j)
	for n := whole[1].to; n < len(j); n++ {
		in := slices.IndexFunc(whole, func(x noted) bool { return x.to > n })
		for _, d := range by {
			b := bytes.Clone(j)
			b[n] += d
			records, length, why := journal.Scan(b)
			if records != in || length != whole[in].from || why == nil {
				t.Fatalf("16.11: byte %d changed by %d: %s", n, d, scan(records, length, why))
			}
			if got := answer(journal.Resume(p, every, b)); got != want {
				t.Fatalf("16.11: byte %d changed by %d: the answer is\n%s\nnot\n%s", n, d, got, want)
			}
		}
	}
}

// 16.11: each byte changed to each other value, or to some.
func TestChanges(t *testing.T) {
	var all []byte
	for d := range 255 {
		all = append(all, byte(d+1))
	}
	changes(t, small(), 1, all...)
	for _, p := range somePlans(t) {
		for _, every := range []int{1, 2, 3} {
			changes(t, p, every, 1, 77, 128, 255)
		}
	}
	changes(t, scenario(t, shop), 3, 9)
	m := maker{chance: 1611}
	for range 30 {
		changes(t, m.plan(t), 1+m.below(5), byte(1+m.below(255)))
	}
}
