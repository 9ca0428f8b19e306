package report

import (
	"strconv"

	"horizon/api"
	"horizon/stamp"
)

// appendOutcome writes how a run ended, without the newline behind it.
func appendOutcome(b []byte, r api.Result) []byte {
	switch r.Kind {
	case api.Done:
		return append(b, "done"...)
	case api.Cut:
		return append(b, "cut"...)
	case api.Fault:
		return appendKey(appendNumber(b, "fault ", int(r.Code)), r.At)
	case api.Resource:
		return appendNumber(b, "resource ", r.Window)
	case api.Unfinished:
		return append(b, "unfinished"...)
	case api.Rejected:
		return appendNumber(b, "rejected ", int(r.Code))
	}
	return appendNumber(b, "result ", r.Kind)
}

func appendKey(b []byte, k api.Key) []byte {
	b = append(b, " at "...)
	b = strconv.AppendUint(b, k.Time, 10)
	b = appendNumber(b, ".", k.Src)
	b = append(b, '.')
	return strconv.AppendUint(b, k.Seq, 10)
}

func appendNumber(b []byte, ahead string, n int) []byte {
	return strconv.AppendInt(append(b, ahead...), int64(n), 10)
}

func appendState(b []byte, part int, s api.State) []byte {
	b = appendNumber(b, "part ", part)
	b = append(b, ": "...)
	for _, w := range s.Words {
		b = strconv.AppendInt(b, w, 10)
		b = append(b, ' ')
	}
	b = append(b, "dice "...)
	b = strconv.AppendUint(b, s.Dice, 10)
	b = append(b, " sent "...)
	b = strconv.AppendUint(b, s.Sent, 10)
	return append(b, '\n')
}

func appendEvent(b []byte, e api.Event) []byte {
	b = append(b, stamp.Text(e)...)
	return append(b, '\n')
}
