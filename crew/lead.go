package crew

import (
	"sync"

	"horizon/api"
	"horizon/seqrun"
	"horizon/stamp"
)

// leader is the one who tells the workers of a run how far they may go, and hears what they did.
type leader struct {
	look    uint64
	end     uint64
	left    int   // what is left of the budget
	owner   []int // of each part: the worker whose it is
	members []*member
	mail    [][]api.Event // by the worker to whom it was sent in the window ahead
	orders  []chan order  // of each worker its own
	done    chan report
	failed  chan report
	wait    sync.WaitGroup
}

// run is the result of a valid plan under a valid layout, stopped behind so many windows.
func run(p api.Plan, l api.Layout, windows int) api.Result {
	c := newLeader(p, l)
	c.start()
	r := c.lead(windows)
	c.dismiss()
	r.States, r.Trace = c.gathered()
	return r
}

func newLeader(p api.Plan, l api.Layout) *leader {
	// Nobody is held up by one who is slower: there is room for an order to each, and for what each tells.
	c := &leader{
		look:    p.Look,
		end:     p.End,
		left:    p.Budget,
		owner:   l.Owner,
		members: make([]*member, l.Workers),
		mail:    make([][]api.Event, l.Workers),
		orders:  make([]chan order, l.Workers),
		done:    make(chan report, l.Workers),
		failed:  make(chan report, l.Workers),
	}
	// A plan that is valid has a first point.
	first, _ := seqrun.First(p)
	for w := range c.members {
		c.members[w] = newMember(p, l, w, first)
		c.orders[w] = make(chan order, 1)
	}
	return c
}

// start lets each worker listen.
func (c *leader) start() {
	for w, m := range c.members {
		c.wait.Add(1)
		go func() {
			defer c.wait.Done()
			m.listen(c.orders[w], c.done, c.failed)
		}()
	}
}

// dismiss tells all workers that no more orders come, and waits until they have gone.
func (c *leader) dismiss() {
	for _, orders := range c.orders {
		close(orders)
	}
	c.wait.Wait()
}

// tell gives each worker its order and hears what has come of it.
func (c *leader) tell(orderOf func(w int) order) news {
	for w, orders := range c.orders {
		orders <- orderOf(w)
	}
	return c.hear()
}

// tellAll gives all workers one order.
func (c *leader) tellAll(o order) news { return c.tell(func(int) order { return o }) }

// hear listens until every worker has told what has come of its order.
func (c *leader) hear() news {
	n := news{reports: make([]report, len(c.members))}
	for range c.members {
		select {
		case r := <-c.done:
			n.reports[r.who] = r
		case r := <-c.failed:
			n.reports[r.who] = r
			n.failed(r)
		}
	}
	return n
}

// lead goes from window to window until the run is over, or is stopped: how it has ended, without states and trace.
func (c *leader) lead(windows int) api.Result {
	for window := 1; ; window++ {
		bound, r := c.begin(window, windows)
		if r.Kind == 0 {
			r = c.pass(window, bound)
		}
		if r.Kind != 0 {
			return r
		}
	}
}

// begin is a window's bound; or how the run has ended, where the window would begin.
func (c *leader) begin(window, windows int) (uint64, api.Result) {
	n := c.tell(func(w int) order { return order{task: takeIn, mail: c.mail[w]} })
	low, pending := n.least()
	switch {
	case n.lack:
		return 0, c.noRoom(window - 1)
	case !pending || low >= c.end:
		return 0, api.Result{Kind: api.Done}
	case c.left == 0:
		return 0, api.Result{Kind: api.Cut}
	case window > windows:
		return 0, api.Result{Kind: api.Unfinished, Code: api.ErrUnfinished}
	}
	return stamp.Bound(low, c.look, c.end), api.Result{}
}

// pass lets all work up to the bound; how the run has ended in this window, if it has.
func (c *leader) pass(window int, bound uint64) api.Result {
	n := c.tellAll(order{task: goOn, bound: bound, most: c.left})
	if n.lack {
		return c.noRoom(window)
	}
	keys := n.counted()
	switch {
	case len(keys) > c.left || len(keys) == c.left && n.fault:
		c.tellAll(order{task: backTo, last: keys[c.left-1]})
		return api.Result{Kind: api.Cut}
	case n.fault:
		c.tellAll(order{task: backTo, last: n.at})
		return api.Result{Kind: api.Fault, Code: n.code, At: n.at}
	}
	c.left -= len(keys)
	c.deal(n.reports)
	return api.Result{}
}

// noRoom ends a run for want of room: nobody keeps what it did in that window.
func (c *leader) noRoom(window int) api.Result {
	c.tellAll(order{task: allBack})
	return api.Result{Kind: api.Resource, Code: api.ErrNoRoom, Window: window}
}

// deal sorts what was sent by the worker to whom it goes.
func (c *leader) deal(reports []report) {
	c.mail = make([][]api.Event, len(c.members))
	for _, r := range reports {
		for _, e := range r.out {
			to := c.owner[e.Dst]
			c.mail[to] = append(c.mail[to], e)
		}
	}
}

// gathered is all parts' states, and what all workers have executed; asked when they have gone.
func (c *leader) gathered() ([]api.State, []api.Event) {
	states := make([]api.State, len(c.owner))
	var lists [][]api.Event
	for _, m := range c.members {
		lists = append(lists, m.trace, m.log)
		for place, v := range m.store.States() {
			states[m.parts[place]] = v
		}
	}
	return states, stamp.Merge(lists...)
}
