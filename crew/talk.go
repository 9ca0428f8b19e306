package crew

import (
	"slices"

	"horizon/api"
	"horizon/stamp"
)

// What a worker may be told to do.
const (
	takeIn  = iota // take in what was sent to it in the window ahead
	goOn           // execute events of its own parts
	backTo         // take back what it did behind a key in the window in which it worked last
	allBack        // take back all that it did there
)

// order is what a worker hears from the one who leads.
type order struct {
	task  int
	mail  []api.Event // of takeIn: what was sent to it
	bound uint64      // of goOn: how far it may go
	most  int         // of goOn: how many events it may execute
	last  api.Key     // of backTo: the last key that stays
}

// report is what a worker tells when it has followed an order. What lies in it is not the worker's any more.
type report struct {
	who     int
	pending bool        // behind takeIn: whether anything is
	low     uint64      // behind takeIn: the least time of it
	keys    []api.Key   // behind goOn: of what it has executed
	out     []api.Event // behind goOn: what it has sent to others, in the order of sending
	code    api.Errno   // a handler's fault, or ErrNoRoom
	at      api.Key     // the event at which that was
}

// news is what all workers have told of one order.
type news struct {
	reports []report // by the number of the worker: who was faster is not to be seen
	lack    bool     // whether somebody has no room
	fault   bool     // whether somebody's handler failed
	code    api.Errno
	at      api.Key // the least key of those
}

// failed makes the failure of a worker count: the least of all stays, whichever is heard of first.
func (n *news) failed(r report) {
	switch {
	case r.code == api.ErrNoRoom:
		n.lack = true
	case !n.fault || stamp.Compare(r.at, n.at) < 0:
		n.fault, n.code, n.at = true, r.code, r.at
	}
}

// least is the least time of a pending event; false, if there is none.
func (n *news) least() (low uint64, pending bool) {
	for _, r := range n.reports {
		if r.pending && (!pending || r.low < low) {
			low, pending = r.low, true
		}
	}
	return low, pending
}

// counted is the keys, in their order, of all executed events that are ahead of the least failure.
func (n *news) counted() []api.Key {
	var keys []api.Key
	for _, r := range n.reports {
		for _, k := range r.keys {
			if !n.fault || stamp.Compare(k, n.at) < 0 {
				keys = append(keys, k)
			}
		}
	}
	slices.SortFunc(keys, stamp.Compare)
	return keys
}
