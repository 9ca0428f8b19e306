package splay_test

import "horizon/api"

// The chapter's words a second time: trees that are made anew at each call, taken apart by calls within calls.

// tree is (a, x, b); nil is the empty tree.
type tree struct {
	a *tree
	x api.Event
	b *tree
}

// seek tells of a node's key whether what is sought is less (-1), the same (0) or greater (1).
type seek func(api.Key) int

func order(a, b api.Key) int {
	switch {
	case a.Time < b.Time, a.Time == b.Time && a.Src < b.Src, a.Time == b.Time && a.Src == b.Src && a.Seq < b.Seq:
		return -1
	case a == b:
		return 0
	}
	return 1
}

func atKey(k api.Key) seek { return func(x api.Key) int { return order(k, x) } }

func atTime(t uint64) seek {
	return func(x api.Key) int {
		if x.Time >= t {
			return -1
		}
		return 1
	}
}

func opened(T *tree, k seek) (A *tree, m *api.Event, B *tree) {
	if T == nil {
		return nil, nil, nil
	}
	a, x, b := T.a, T.x, T.b
	switch k(x.Key) {
	case 0:
		return a, &x, b
	case -1:
		return openedLess(T, k)
	}
	if b == nil {
		return T, nil, nil
	}
	c, y, d := b.a, b.x, b.b
	switch k(y.Key) {
	case 0:
		return &tree{a, x, c}, &y, d
	case 1:
		A, m, B = opened(d, k)
		return &tree{&tree{a, x, c}, y, A}, m, B
	}
	A, m, B = opened(c, k)
	return &tree{a, x, A}, m, &tree{B, y, d}
}

func openedLess(T *tree, k seek) (A *tree, m *api.Event, B *tree) {
	a, x, b := T.a, T.x, T.b
	if a == nil {
		return nil, nil, T
	}
	c, y, d := a.a, a.x, a.b
	switch k(y.Key) {
	case 0:
		return c, &y, &tree{d, x, b}
	case -1:
		A, m, B = opened(c, k)
		return A, m, &tree{B, y, &tree{d, x, b}}
	}
	A, m, B = opened(d, k)
	return &tree{c, y, A}, m, &tree{B, x, b}
}

// links are those of the way of a key.
func links(T *tree, k seek) int {
	came := 0
	for ; T != nil; came++ {
		switch k(T.x.Key) {
		case 0:
			return came
		case -1:
			T = T.a
		default:
			T = T.b
		}
	}
	return max(came-1, 0)
}

// walked sees the events of a tree in the order of keys, with how many nodes lie above each.
func walked(T *tree, above int, see func(e api.Event, above int)) {
	if T != nil {
		walked(T.a, above+1, see)
		see(T.x, above)
		walked(T.b, above+1, see)
	}
}

func rising(T *tree) (l []api.Event) {
	walked(T, 0, func(e api.Event, _ int) { l = append(l, e) })
	return l
}

func depths(T *tree) (l []int) {
	walked(T, 0, func(_ api.Event, above int) { l = append(l, above) })
	return l
}

func count(T *tree) int {
	if T == nil {
		return 0
	}
	return count(T.a) + 1 + count(T.b)
}

func first(T *tree) api.Key {
	for T.a != nil {
		T = T.a
	}
	return T.x.Key
}

// slow is a queue by these words. shares are those of 8.13.
type slow struct {
	tree         *tree
	room         int
	work, shares int
}

func (s *slow) share() {
	b := 0
	for n := s.Size(); n > 0; n /= 2 {
		b++
	}
	s.shares += 6 + 10*b
}

func (s *slow) open(T *tree, k seek) (*tree, *api.Event, *tree) {
	s.work += links(T, k)
	return opened(T, k)
}

func (s *slow) least(T *tree) (api.Event, *tree) {
	_, m, B := s.open(T, atKey(first(T)))
	return *m, B
}

func (s *slow) join(A, B *tree) *tree {
	if B == nil {
		return A
	}
	if A == nil {
		return B
	}
	m, rest := s.least(B)
	return &tree{A, m, rest}
}

func (s *slow) Insert(e api.Event) api.Errno {
	s.share()
	if s.Size() == s.room {
		return api.ErrFull
	}
	A, m, B := s.open(s.tree, atKey(e.Key))
	if m != nil {
		s.tree = &tree{A, *m, B}
		return api.ErrTwin
	}
	s.tree = &tree{A, e, B}
	return api.OK
}

func (s *slow) Min() (api.Event, api.Errno) {
	s.share()
	if s.tree == nil {
		return api.Event{}, api.ErrEmpty
	}
	m, B := s.least(s.tree)
	s.tree = &tree{nil, m, B}
	return m, api.OK
}

func (s *slow) Pop() (api.Event, api.Errno) {
	s.share()
	if s.tree == nil {
		return api.Event{}, api.ErrEmpty
	}
	m, B := s.least(s.tree)
	s.tree = B
	return m, api.OK
}

func (s *slow) Find(k api.Key) (api.Event, api.Errno) {
	s.share()
	A, m, B := s.open(s.tree, atKey(k))
	if m == nil {
		s.tree = s.join(A, B)
		return api.Event{}, api.ErrNone
	}
	s.tree = &tree{A, *m, B}
	return *m, api.OK
}

func (s *slow) Remove(k api.Key) (api.Event, api.Errno) {
	s.share()
	A, m, B := s.open(s.tree, atKey(k))
	s.tree = s.join(A, B)
	if m == nil {
		return api.Event{}, api.ErrNone
	}
	return *m, api.OK
}

func (s *slow) Split(t uint64) []api.Event {
	s.share()
	A, _, B := s.open(s.tree, atTime(t))
	s.tree = A
	return rising(B)
}

func (s *slow) Size() int         { return count(s.tree) }
func (s *slow) Room() int         { return s.room - s.Size() }
func (s *slow) List() []api.Event { return rising(s.tree) }
func (s *slow) Depths() []int     { return depths(s.tree) }
func (s *slow) Work() int         { return s.work }
