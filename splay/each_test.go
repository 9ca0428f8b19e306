package splay_test

import (
	"iter"
	"slices"
	"testing"

	"horizon/api"
)

// 8.9: all events rise, whether they are taken to the end or not; who stops is given nothing more, and nothing is changed.
func TestEach(t *testing.T) {
	q := made(t, 100, 5, 3, 8, 1, 9)
	before := look(q)
	for stop := range 7 {
		got := []uint64{}
		for e := range q.Each() {
			if len(got) == stop {
				break
			}
			got = append(got, e.Key.Time)
		}
		if want := []uint64{1, 3, 5, 8, 9}[:min(stop, 5)]; !slices.Equal(got, want) {
			t.Errorf("stopped behind %d: %v, not %v", stop, got, want)
		}
	}
	given := 0
	q.Each()(func(api.Event) bool {
		given++
		return given < 3
	})
	if given != 3 {
		t.Errorf("who stops at the third is given %d", given)
	}
	if after := look(q); after != before {
		t.Errorf("Each makes\n%s\nof\n%s", after, before)
	}
}

// 8.9: what is given is fixed when the ranging begins, not when Each is called, and not later.
func TestEachWhileOthersCall(t *testing.T) {
	calls := map[string]func(q queue, n uint64){
		"Insert":       func(q queue, n uint64) { q.Insert(at(100 - n)) },
		"Pop":          func(q queue, n uint64) { q.Pop() },
		"Min":          func(q queue, n uint64) { q.Min() },
		"Find":         func(q queue, n uint64) { q.Find(key(9 - n)) },
		"Remove":       func(q queue, n uint64) { q.Remove(key(9 - n)) },
		"Split":        func(q queue, n uint64) { q.Split(0) },
		"Pop, Insert":  func(q queue, n uint64) { q.Pop(); q.Insert(at(n)) },
		"Split, other": func(q queue, n uint64) { q.Split(n); q.Insert(api.Event{Key: key(5), Data: 9}) },
	}
	for name, f := range calls {
		q := made(t, 100, 2, 4)
		each := q.Each()
		q.Pop()
		for _, time := range []uint64{5, 3, 8, 1, 9} {
			q.Insert(at(time))
		}
		want := q.List()
		got, n := []api.Event{}, uint64(0)
		for e := range each {
			got = append(got, e)
			f(q, n)
			n++
		}
		if !slices.Equal(got, want) {
			t.Errorf("%s while ranging: %v, not %v", name, got, want)
		}
		if again := slices.Collect(each); !slices.Equal(again, q.List()) {
			t.Errorf("%s, ranged over again: %v, not %v", name, again, q.List())
		}
	}
}

// 8.9: one iterator ranged over within itself, and by two who take turns: each has its own beginning.
func TestEachTwiceAtOnce(t *testing.T) {
	q := made(t, 100, 2, 1, 3)
	each, n := q.Each(), 0
	for a := range each {
		inner := []uint64{}
		for b := range each {
			inner = append(inner, b.Key.Time)
		}
		if len(inner) != 3+n || inner[0] != 1 {
			t.Errorf("within %v: %v", a, inner)
		}
		n++
		q.Insert(at(uint64(100 + n)))
	}
	if n != 3 {
		t.Errorf("%d are given, not 3", n)
	}
	one, stopOne := iter.Pull(each)
	one()
	q.Split(2)
	two, stopTwo := iter.Pull(each)
	e, ok := two()
	_, more := two()
	if e != at(1) || !ok || more {
		t.Errorf("the second begins with %v, %v, %v", e, ok, more)
	}
	if e, ok := one(); e != at(2) || !ok {
		t.Errorf("the first goes on with %v, %v", e, ok)
	}
	stopOne()
	stopTwo()
}
