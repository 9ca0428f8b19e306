package crew

import (
	"horizon/api"
	"horizon/splay"
	"horizon/stamp"
	"horizon/store"
	"horizon/vm"
)

// member is a worker: but for the plan and the layout, which nobody writes into, it touches what is its own alone.
type member struct {
	plan   api.Plan
	layout api.Layout
	me     int
	parts  []int       // its own parts
	place  map[int]int // of its own parts: where they stand in the store
	queue  *splay.Queue
	store  *store.Store
	sent   []int       // by the worker to whom: how many in this window
	out    []api.Event // sent to others in this window
	log    []api.Event // executed in this window
	trace  []api.Event // executed in the windows ahead
}

// newMember is a worker at the start: of a plan's first point it has what is its own.
func newMember(p api.Plan, l api.Layout, me int, first api.Point) *member {
	m := &member{plan: p, layout: l, me: me, place: map[int]int{}, sent: make([]int, l.Workers)}
	var own []api.State
	for part, v := range first.States {
		if l.Owner[part] == me {
			m.place[part] = len(m.parts)
			m.parts = append(m.parts, part)
			own = append(own, v)
		}
	}
	// A valid layout has room for all of these.
	m.store, _ = store.New(own, l.Undo)
	m.queue, _ = splay.New(l.Arena)
	for _, e := range first.Pending {
		if l.Owner[e.Dst] == me {
			m.queue.Insert(e)
		}
	}
	return m
}

// listen follows orders until no more of them come.
func (m *member) listen(orders <-chan order, done, failed chan<- report) {
	for o := range orders {
		if r := m.follow(o); r.code == api.OK {
			done <- r
		} else {
			failed <- r
		}
	}
}

func (m *member) follow(o order) report {
	switch o.task {
	case takeIn:
		return m.takeIn(o.mail)
	case goOn:
		return m.work(o.bound, o.most)
	case backTo:
		m.keep(m.upTo(o.last))
	case allBack:
		m.keep(0)
	}
	return report{who: m.me}
}

// takeIn puts what was sent to the worker into its queue.
func (m *member) takeIn(mail []api.Event) report {
	for _, e := range stamp.Order(mail) {
		if m.queue.Insert(e) != api.OK {
			return report{who: m.me, code: api.ErrNoRoom, at: e.Key}
		}
	}
	e, code := m.queue.Min()
	return report{who: m.me, pending: code == api.OK, low: e.Key.Time}
}

// work executes what is pending below the bound, so many events at most. Whoever is told to work knows by that that the window ahead stays.
func (m *member) work(bound uint64, most int) report {
	m.commit()
	for len(m.log) < most {
		e, code := m.queue.Min()
		if code != api.OK || e.Key.Time >= bound {
			break
		}
		if code := m.execute(e); code != api.OK {
			return report{who: m.me, keys: m.store.Log(), code: code, at: e.Key}
		}
	}
	return report{who: m.me, keys: m.store.Log(), out: m.out}
}

// commit lays what was executed in the window ahead behind the trace.
func (m *member) commit() {
	m.store.Commit()
	m.trace = append(m.trace, m.log...)
	m.log, m.out = nil, nil
	clear(m.sent)
}

// execute runs the handler of the first event of the queue, and sends what it sends: a fault, or ErrNoRoom, if something does not go.
func (m *member) execute(e api.Event) api.Errno {
	if m.store.Room() == 0 {
		return api.ErrNoRoom
	}
	effect := vm.Run(m.plan.Programs[m.plan.Parts[e.Dst].Program], m.call(e))
	if effect.Code != api.OK {
		return effect.Code
	}
	m.queue.Pop()
	m.log = append(m.log, e)
	// There is room, and the keys of what a worker executes rise: nothing is refused.
	m.store.Put(m.place[e.Dst], e.Key, effect.State)
	for _, sent := range effect.Out {
		if !m.send(sent) {
			return api.ErrNoRoom
		}
	}
	return api.OK
}

// call is what an event's handler is run on.
func (m *member) call(e api.Event) api.Call {
	state, _ := m.store.State(m.place[e.Dst])
	return api.Call{Event: e, State: state, Look: m.plan.Look, Parts: len(m.plan.Parts), Fuel: m.plan.Fuel}
}

// send lays an event into the worker's own queue, or where it waits for the window's end; false, if there is no room for it.
func (m *member) send(e api.Event) bool {
	to := m.layout.Owner[e.Dst]
	if to == m.me {
		return m.queue.Insert(e) == api.OK
	}
	if m.sent[to] == m.layout.Box {
		return false
	}
	m.sent[to]++
	m.out = append(m.out, e)
	return true
}

// upTo is how many events of this window have no keys above k.
func (m *member) upTo(k api.Key) int {
	n := 0
	for n < len(m.log) && stamp.Compare(m.log[n].Key, k) <= 0 {
		n++
	}
	return n
}

// keep takes back what the worker has executed behind the first so many events of this window.
func (m *member) keep(n int) {
	if n < len(m.log) {
		m.store.Back(m.log[n].Key)
		m.log = m.log[:n]
	}
}
