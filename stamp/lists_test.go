package stamp_test

import (
	"slices"
	"sort"
	"testing"

	"horizon/api"
	"horizon/stamp"
)

// before is 1.1 once more, so that lists are judged by a comparison that is not the package's own.
func before(a, b api.Key) bool {
	if a.Time != b.Time {
		return a.Time < b.Time
	}
	if a.Src != b.Src {
		return a.Src < b.Src
	}
	return a.Seq < b.Seq
}

func plainOrder(l []api.Event) []api.Event {
	l = slices.Clone(l)
	sort.SliceStable(l, func(i, j int) bool { return before(l[i].Key, l[j].Key) })
	return l
}

// crowd is a list in which many keys are equal; Data tells where an event stood.
func crowd(r *thrown, size int) []api.Event {
	l := make([]api.Event, size)
	for i := range l {
		l[i] = event(uint64(r.below(3))<<62, r.below(3)-1, uint64(r.below(3))<<62, r.below(9), r.below(9), int64(i))
	}
	return l
}

// 1.11
func TestRising(t *testing.T) {
	a, b, c := event(1, 0, 0, 9, 9, 9), event(1, 0, 1, 5, 5, 5), event(1, 1, 0, 0, 0, 0)
	d, e := event(1<<63, -1, 0, 0, 0, 0), event(1<<63, 0, 0, 0, 0, 0)
	for _, x := range []struct {
		l    []api.Event
		want bool
	}{
		{nil, true},
		{[]api.Event{}, true},
		{[]api.Event{a}, true},
		{[]api.Event{a, b}, true},
		{[]api.Event{b, a}, false},
		{[]api.Event{a, a}, false},
		{[]api.Event{a, event(1, 0, 0, 10, 10, 10)}, false},
		{[]api.Event{a, b, c, d, e}, true},
		{[]api.Event{a, c, d, e}, true},
		{[]api.Event{b, a, c, d, e}, false},
		{[]api.Event{a, b, d, c, e}, false},
		{[]api.Event{a, b, c, e, d}, false},
		{[]api.Event{a, a, c, d, e}, false},
		{[]api.Event{a, b, c, e, e}, false},
		{[]api.Event{a, b, a, b}, false},
		{[]api.Event{d, e, a, b}, false},
	} {
		given := slices.Clone(x.l)
		if got := stamp.Rising(x.l); got != x.want {
			t.Errorf("Rising(%v) = %v", x.l, got)
		}
		if !slices.Equal(x.l, given) {
			t.Errorf("Rising changed %v into %v", given, x.l)
		}
	}
}

// 1.11
func TestRisingLooksAtEveryPair(t *testing.T) {
	const size = 40
	l := make([]api.Event, size)
	for i := range l {
		l[i].Key.Time = uint64(2 * i)
	}
	if !stamp.Rising(l) {
		t.Error("a rising list is not known")
	}
	for i := 1; i < size; i++ {
		for _, time := range []uint64{uint64(2*i - 2), 0} {
			spoilt := slices.Clone(l)
			spoilt[i].Key.Time = time
			if stamp.Rising(spoilt) {
				t.Errorf("the event at place %d does not rise", i)
			}
		}
	}
}

// 1.12
func TestOrder(t *testing.T) {
	r := thrown(9)
	for _, size := range []int{0, 1, 2, 3, 5, 8, 12, 13, 20, 21, 50, 100, 500, 3000} {
		for _, l := range [][]api.Event{crowd(&r, size), r.events(size)} {
			given := slices.Clone(l)
			got := stamp.Order(l)
			if !slices.Equal(got, plainOrder(given)) {
				t.Errorf("Order of %d events is wrong", size)
			}
			if !slices.Equal(l, given) {
				t.Errorf("Order of %d events changed its list", size)
			}
			slices.Reverse(got)
			if !slices.Equal(stamp.Order(got), plainOrder(got)) {
				t.Errorf("Order of %d events from back to front is wrong", size)
			}
		}
	}
}

// 1.12: of events with equal keys nothing but their places tells.
func TestOrderKeepsTwinsAsTheyStood(t *testing.T) {
	l := []api.Event{event(5, 0, 0, 9, 0, 0), event(5, 0, 0, 1, 0, 0), event(4, 0, 0, 0, 9, 0), event(5, 0, 0, 0, 0, 7), event(4, 0, 0, 0, 1, 0), event(5, 0, 0, 9, 0, 0)}
	want := []api.Event{l[2], l[4], l[0], l[1], l[3], l[5]}
	if got := stamp.Order(l); !slices.Equal(got, want) {
		t.Errorf("Order = %v, not %v", got, want)
	}
	if got := stamp.Order(nil); len(got) != 0 {
		t.Errorf("Order(nil) = %v", got)
	}
}

// wantOwnMemory spoils an answer, up to the end of its spare room, and looks whether anything of what was handed in changed.
func wantOwnMemory(t *testing.T, what string, answer, given []api.Event) {
	t.Helper()
	ahead := slices.Clone(given)
	answer = answer[:cap(answer)]
	for i := range answer {
		answer[i] = event(77, 77, 77, 77, 77, 77)
	}
	if !slices.Equal(given, ahead) {
		t.Errorf("%s: the answer shares memory with what was handed in", what)
	}
}

// 1.12, 0.4
func TestOrderSharesNothing(t *testing.T) {
	r := thrown(10)
	for _, size := range []int{0, 1, 2, 7, 30} {
		for _, inOrder := range []bool{false, true} {
			whole := r.events(size + 40) // what lies behind the list's end
			if inOrder {
				whole = plainOrder(whole)
			}
			ahead := slices.Clone(whole)
			first := stamp.Order(whole[:size])
			second := stamp.Order(whole[:size])
			if !slices.Equal(whole, ahead) {
				t.Errorf("Order of %d events changed what it was given or what lies behind", size)
			}
			wantOwnMemory(t, "Order", first, whole)
			if !slices.Equal(second, plainOrder(whole[:size])) {
				t.Errorf("two answers of Order for %d events share memory", size)
			}
		}
	}
}

// 1.12
func TestMergeExamples(t *testing.T) {
	a, b, c, d := event(2, 0, 0, 0, 0, 1), event(1, 0, 0, 0, 0, 2), event(1, 0, 0, 0, 0, 3), event(1, -1, 5, 0, 0, 4)
	for _, x := range []struct {
		lists [][]api.Event
		want  []api.Event
	}{
		{nil, nil},
		{[][]api.Event{nil}, nil},
		{[][]api.Event{nil, {}, nil}, nil},
		{[][]api.Event{{a}}, []api.Event{a}},
		{[][]api.Event{{a, b}}, []api.Event{b, a}},
		{[][]api.Event{{a, b}, {c}}, []api.Event{b, c, a}},
		{[][]api.Event{{c}, {a, b}}, []api.Event{c, b, a}},
		{[][]api.Event{nil, {a}, {}, {b}, nil, {c, d}}, []api.Event{d, b, c, a}},
		{[][]api.Event{{a}, {a}, {a}}, []api.Event{a, a, a}},
	} {
		if got := stamp.Merge(x.lists...); !slices.Equal(got, x.want) {
			t.Errorf("Merge(%v) = %v, not %v", x.lists, got, x.want)
		}
	}
	if got := stamp.Merge([]api.Event{a}, []api.Event{b, c}); !slices.Equal(got, []api.Event{b, c, a}) {
		t.Errorf("Merge of two = %v", got)
	}
}

// 1.12
func TestMergeOfManyLists(t *testing.T) {
	r := thrown(11)
	for range 300 {
		lists := make([][]api.Event, r.below(9))
		var all []api.Event
		for i := range lists {
			lists[i] = crowd(&r, r.below(40))
			if r.below(2) == 0 {
				lists[i] = plainOrder(lists[i])
			}
			for j := range lists[i] {
				lists[i][j].Kind = i
			}
			all = append(all, lists[i]...)
		}
		if got := stamp.Merge(lists...); !slices.Equal(got, plainOrder(all)) {
			t.Fatalf("Merge of %d lists is wrong", len(lists))
		}
	}
}

// 1.12, 0.4: lists that lie one behind the other in one piece of memory, with other things between and behind.
func TestMergeSharesNothing(t *testing.T) {
	r := thrown(12)
	for _, inOrder := range []bool{false, true} {
		whole := r.events(30)
		if inOrder {
			whole = plainOrder(whole)
		}
		ahead := slices.Clone(whole)
		for _, lists := range [][][]api.Event{
			{whole[:5]}, {whole[:5], nil}, {nil, whole[:5]}, {whole[:5], whole[5:9]}, {whole[10:12], whole[:3], whole[20:22]}, {whole[:0], whole[3:3]}, {whole[:8], whole[:8]}, {whole},
		} {
			heads := slices.Clone(lists)
			want := plainOrder(slices.Concat(lists...))
			got := stamp.Merge(lists...)
			again := stamp.Merge(lists...)
			if !slices.Equal(whole, ahead) {
				t.Fatalf("Merge changed what it was given or what lies behind: %v", lists)
			}
			wantOwnMemory(t, "Merge", got, whole)
			if !slices.Equal(again, want) {
				t.Errorf("Merge = %v, not %v", again, want)
			}
			for i := range lists {
				if len(lists[i]) != len(heads[i]) || cap(lists[i]) != cap(heads[i]) {
					t.Errorf("Merge changed the list number %d", i)
				}
			}
		}
	}
}
