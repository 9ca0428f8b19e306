package journal

import (
	"horizon/api"
	"horizon/kernel"
	"horizon/stamp"
)

// magic is how the load of a head begins.
const magic = "HORIZON1"

// The kinds of records.
const (
	headKind    = 'H'
	pictureKind = 'P'
	windowKind  = 'W'
	endKind     = 'F'
)

// A record is a front (its kind, the length of its load), the front's sum, the load, the load's sum.
const (
	frontLength = 5
	sumLength   = 4
	loadAt      = frontLength + sumLength
)

// writer writes a journal record by record.
type writer struct {
	bytes  []byte
	every  int
	number int // of the last window
}

// goOn writes all that a run still writes, from where it is: the whole journal, the run's result.
func (w *writer) goOn(run *course) ([]byte, api.Result, error) {
	for !run.over() {
		w.window(run.pass())
		if w.number%w.every == 0 {
			w.picture(run.here.Point())
		}
	}
	w.end(run.result)
	return w.handedOut(), run.result, kernel.Err(run.result)
}

// handedOut is the journal in memory that is just as long.
func (w *writer) handedOut() []byte {
	b := make([]byte, len(w.bytes))
	copy(b, w.bytes)
	return b
}

func (w *writer) head(digest uint32) {
	load := appendWord([]byte(magic), digest)
	w.record(headKind, appendNumbers(load, uint64(w.every)))
}

func (w *writer) picture(at api.Point) {
	load := appendNumbers(nil, uint64(w.number), uint64(len(at.States)))
	for _, v := range at.States {
		load = appendNumbers(load, uint64(len(v.Words)))
		load = appendSigned(load, v.Words...)
		load = appendNumbers(load, v.Dice, v.Sent)
	}
	w.record(pictureKind, append(load, stamp.PackAll(at.Pending)...))
}

func (w *writer) window(events []api.Event) {
	w.number++
	load := appendNumbers(nil, uint64(w.number))
	w.record(windowKind, append(load, stamp.PackAll(events)...))
}

func (w *writer) end(r api.Result) {
	load := appendNumbers(nil, uint64(r.Kind), uint64(r.Code), r.At.Time)
	load = appendSigned(load, r.At.Src)
	w.record(endKind, appendNumbers(load, r.At.Seq))
}

func (w *writer) record(kind byte, load []byte) {
	front := appendWord([]byte{kind}, uint32(len(load)))
	w.bytes = append(w.bytes, front...)
	w.bytes = appendWord(w.bytes, stamp.Sum(front))
	w.bytes = append(w.bytes, load...)
	w.bytes = appendWord(w.bytes, stamp.Sum(load))
}
