package combine

import "horizon/api"

// Barrier is a net that joins nothing.
type Barrier struct {
	*Net[struct{}]
}

// NewBarrier is a barrier for so many workers.
func NewBarrier(workers int) (*Barrier, api.Errno) {
	net, code := New[struct{}](workers, nil)
	if code != api.OK {
		return nil, code
	}
	return &Barrier{net}, api.OK
}

// Wait is one step of a worker: it enters, if it is not inside; true, if it is through.
func (b *Barrier) Wait(w int) (bool, api.Errno) {
	if !b.Inside(w) {
		// Who is no worker cannot enter: Step refuses it in the same words.
		b.Enter(w, struct{}{})
	}
	return b.Step(w)
}
