package journal

import (
	"errors"
	"slices"

	"horizon/api"
)

// contents is what a journal tells, as far as its records are whole and right.
type contents struct {
	records   int
	last      byte // the kind of the last record
	lastAt    int  // where it begins
	digest    uint32
	every     int
	number    int       // of the last window
	picture   api.Point // the last one, with all that was executed ahead of it
	pictureAt int       // where its record begins
	since     []window  // what is behind the last picture
}

// window is a window record: where it begins, what was executed.
type window struct {
	at     int
	events []api.Event
}

// begun tells whether there is a point from which the run can go on: the head and the picture 0.
func (c *contents) begun() bool { return c.records >= 2 }

// pictureDue tells whether nothing but a picture may come next.
func (c *contents) pictureDue() bool {
	return c.last == headKind || c.last == windowKind && c.number%c.every == 0
}

// goesOn tells whether a window or the end may come next.
func (c *contents) goesOn() bool {
	return c.last == pictureKind || c.last == windowKind && !c.pictureDue()
}

func (c *contents) takeHead(l *load) {
	l.skip(len(magic))
	digest := wordAt(l.skip(sumLength))
	every := l.number()
	l.end()
	insist(every >= 1 && every <= api.MaxEvery, api.ErrForm)
	insist(c.records == 0, api.ErrForm)
	c.digest, c.every = digest, int(every)
}

func (c *contents) takePicture(l *load, at int) {
	number := l.number()
	states := l.states()
	pending := l.events()
	l.end()
	insist(c.pictureDue() && number == uint64(c.number), api.ErrForm)
	c.picture = api.Point{States: states, Pending: pending, Trace: c.executed()}
	c.pictureAt = at
	c.since = nil
}

func (c *contents) takeWindow(l *load, at int) {
	number := l.number()
	events := l.events()
	l.end()
	insist(c.goesOn() && number == uint64(c.number)+1, api.ErrForm)
	c.number++
	c.since = append(c.since, window{at: at, events: events})
}

// takeEnd looks at the form alone: how a run ended is told by whoever runs it to its end again.
func (c *contents) takeEnd(l *load) {
	l.number()
	l.number()
	l.number()
	l.signed()
	l.number()
	l.end()
	insist(c.goesOn(), api.ErrForm)
}

// executed is the events of all windows.
func (c *contents) executed() []api.Event {
	trace := c.picture.Trace
	for _, w := range c.since {
		trace = append(trace, w.events...)
	}
	return trace
}

// recovered is the run behind the last window of what was read of a journal; why is the error of the reading.
func recovered(p api.Plan, past contents, why error) (*course, error) {
	if !past.begun() {
		return nil, torn(why)
	}
	if past.digest != Digest(p) {
		return nil, &api.ByteError{Err: api.ErrOther}
	}
	return past.playedAgain(p)
}

// torn is an error of reading where no picture is whole.
func torn(why error) error {
	var broken *api.ByteError
	if errors.Is(why, api.ErrShort) && errors.As(why, &broken) {
		return &api.ByteError{At: broken.At, Err: api.ErrTorn}
	}
	return why
}

// playedAgain is the run from the last picture on, behind the windows that were written down since, if they are its own.
func (c *contents) playedAgain(p api.Plan) (*course, error) {
	run, code := courseFrom(p, c.picture)
	if code != api.OK {
		return nil, &api.ByteError{At: c.pictureAt, Err: api.ErrPoint}
	}
	for _, w := range c.since {
		if run.over() || !slices.Equal(w.events, run.pass()) {
			return nil, &api.ByteError{At: w.at, Err: api.ErrTrace}
		}
	}
	return run, nil
}
