package stamp

import (
	"slices"

	"horizon/api"
)

// Rising tells whether each event's key is above the one ahead of it.
func Rising(l []api.Event) bool {
	for i := 1; i < len(l); i++ {
		if compareEvents(l[i-1], l[i]) >= 0 {
			return false
		}
	}
	return true
}

// Order is the list in the order of keys; of equal keys the one that stood first stays first.
func Order(l []api.Event) []api.Event { return sorted(l, compareEvents) }

// Merge is all of the lists' events in the order of keys; of equal keys the one of the earlier list is first.
func Merge(lists ...[]api.Event) []api.Event { return Order(slices.Concat(lists...)) }

func compareEvents(a, b api.Event) int { return Compare(a.Key, b.Key) }

// sorted is a new list of the same things in the order of compare; things that are equal there stay as they stood.
func sorted[T any](l []T, compare func(a, b T) int) []T {
	out := make([]T, len(l))
	copy(out, l)
	slices.SortStableFunc(out, compare)
	return out
}
