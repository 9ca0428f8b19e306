package combine

import (
	"cmp"

	"horizon/api"
)

// Least joins two votes.
func Least(a, b api.Vote) api.Vote {
	v := api.Vote{Any: a.Any || b.Any, Bad: a.Bad || b.Bad, Fault: a.Fault || b.Fault, Count: a.Count + b.Count}
	switch {
	case a.Any && b.Any:
		v.Low = min(a.Low, b.Low)
	case a.Any:
		v.Low = a.Low
	case b.Any:
		v.Low = b.Low
	}
	switch {
	case a.Fault && !(b.Fault && ahead(b.At, a.At)):
		v.At, v.Code = a.At, a.Code
	case b.Fault:
		v.At, v.Code = b.At, b.Code
	}
	return v
}

// ahead tells whether a key goes ahead of another. The order is layer 1's, of which this layer calls nothing.
func ahead(a, b api.Key) bool {
	return cmp.Or(
		cmp.Compare(a.Time, b.Time),
		cmp.Compare(a.Src, b.Src),
		cmp.Compare(a.Seq, b.Seq),
	) < 0
}
