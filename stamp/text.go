package stamp

import (
	"strconv"
	"strings"

	"horizon/api"
)

// Text is an event's text.
func Text(e api.Event) string {
	var b []byte
	b = strconv.AppendUint(b, e.Key.Time, 10)
	b = append(b, '.')
	b = strconv.AppendInt(b, int64(e.Key.Src), 10)
	b = append(b, '.')
	b = strconv.AppendUint(b, e.Key.Seq, 10)
	b = append(b, '>')
	b = strconv.AppendInt(b, int64(e.Dst), 10)
	b = append(b, ':')
	b = strconv.AppendInt(b, int64(e.Kind), 10)
	b = append(b, '=')
	b = strconv.AppendInt(b, e.Data, 10)
	return string(b)
}

// Parse reads an event's text.
func Parse(s string) (api.Event, api.Errno) {
	time, rest, _ := strings.Cut(s, ".")
	src, rest, _ := strings.Cut(rest, ".")
	seq, rest, _ := strings.Cut(rest, ">")
	dst, rest, _ := strings.Cut(rest, ":")
	kind, data, _ := strings.Cut(rest, "=")
	e := api.Event{
		Key:  api.Key{Time: plain(time), Src: int(signed(src)), Seq: plain(seq)},
		Dst:  int(signed(dst)),
		Kind: int(signed(kind)),
		Data: signed(data),
	}
	// An event has one text only: so this alone tells whether all pieces were there and were numbers in their one form.
	if Text(e) != s {
		return api.Event{}, api.ErrForm
	}
	return e, api.OK
}

// What is no number becomes some number: Parse finds it out by the text of the whole.
func plain(s string) uint64 {
	n, _ := strconv.ParseUint(s, 10, 64)
	return n
}

func signed(s string) int64 {
	i, _ := strconv.ParseInt(s, 10, 64)
	return i
}
