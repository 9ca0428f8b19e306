package splay_test

import (
	"slices"
	"testing"

	"horizon/api"
	"horizon/splay"
)

// payer makes calls and keeps the sum of their shares.
type payer struct {
	*testing.T
	q      *splay.Queue
	shares int
}

func share(n int) int {
	b := 0
	for ; n > 0; n /= 2 {
		b++
	}
	return 6 + 10*b
}

func (p *payer) do(x call) answer {
	p.Helper()
	p.shares += share(p.q.Size())
	a := do(p.q, x)
	if p.q.Work() > p.shares {
		p.Fatalf("behind %v Work is %d, the shares are %d", x, p.q.Work(), p.shares)
	}
	return a
}

// deepest is the event that lies deepest, the last of them.
func (p *payer) deepest() api.Event {
	best, deep := 0, p.q.Depths()
	for i, d := range deep {
		if d >= deep[best] {
			best = i
		}
	}
	return p.q.List()[best]
}

// 8.13: the chapter's example 10.
func TestShares(t *testing.T) {
	p := &payer{T: t, q: made(t, 10)}
	for i, want := range []int{6, 16, 26, 26, 36} {
		if n := share(i); n != want {
			t.Errorf("the share at %d events is %d", i, n)
		}
		p.do(call{'I', at(uint64(i))})
	}
	p.do(call{'M', at(0)})
	if p.shares != 110+36 {
		t.Errorf("the shares are %d", p.shares)
	}
}

// 8.13: whoever asks for what lies deepest, again and again, pays no more than the shares, in whichever way it asks.
func TestDeepestIsAsked(t *testing.T) {
	for _, ask := range []string{"F", "R", "N", "FR", "FNRMP", "I", "S"} {
		for _, n := range []uint64{1, 2, 3, 10, 100, 400} {
			p := &payer{T: t, q: made(t, int(n)+1)}
			for i := range n {
				p.do(call{'I', at(2 * i)})
			}
			for i := range 300 {
				e := p.deepest()
				switch name := ask[i%len(ask)]; name {
				case 'N':
					e.Key.Time++
					p.do(call{'F', e})
				case 'R', 'M', 'P':
					gone := p.do(call{name, e})
					p.do(call{'I', gone.event})
				case 'S':
					for _, e := range p.do(call{'S', e}).list {
						p.do(call{'I', e})
					}
				default:
					p.do(call{name, e})
				}
			}
		}
	}
}

// 8.13: rows of calls that a tree without balance does badly at: rising, falling, from both ends, all through, and again.
func TestRowsOfKeys(t *testing.T) {
	const n = 2048
	rows := map[string]func(i uint64) uint64{
		"rising":    func(i uint64) uint64 { return i },
		"falling":   func(i uint64) uint64 { return n - i },
		"both ends": func(i uint64) uint64 { return (i%2)*(n-i) + (1-i%2)*i },
		"strides":   func(i uint64) uint64 { return i * 619 % n },
		"few":       func(i uint64) uint64 { return i % 3 * 700 },
	}
	for in, first := range rows {
		for by, second := range rows {
			p := &payer{T: t, q: made(t, n)}
			for i := range uint64(n) {
				p.do(call{'I', at(first(i))})
			}
			for i := range uint64(n) {
				p.do(call{'F', at(second(i))})
			}
			for i := range uint64(n) {
				p.do(call{"RPM"[i%3], at(second(i))})
			}
			if l := p.q.List(); !slices.IsSortedFunc(l, func(a, b api.Event) int { return order(a.Key, b.Key) }) {
				t.Errorf("%s, %s: the list does not rise", in, by)
			}
		}
	}
}

// 8.1, 8.2, 8.3, 8.7, 8.10, 8.13: a queue as large as can be, as deep as can be; one call may cost as many links as there are events below the root.
func TestLargest(t *testing.T) {
	p := &payer{T: t, q: made(t, api.MaxArena)}
	want := []int{}
	for i := range uint64(api.MaxArena) {
		if a := p.do(call{'I', at(i)}); a.code != api.OK {
			t.Fatalf("Insert of %d: %d", i, a.code)
		}
		want = append(want, api.MaxArena-1-int(i))
	}
	shape(t, "rising", p.q, 0, want...)
	if a := p.do(call{'I', at(api.MaxArena)}); a.code != api.ErrFull || p.q.Room() != 0 {
		t.Errorf("one more: %d", a.code)
	}
	if a := p.do(call{'M', at(0)}); a.event != at(0) || p.q.Work() != api.MaxArena-1 {
		t.Errorf("Min is %v, Work %d", a.event, p.q.Work())
	}
	deepest := slices.Max(p.q.Depths())
	if deepest > api.MaxArena/2+2 {
		t.Errorf("behind Min something lies at depth %d", deepest)
	}
	if l := p.do(call{'S', at(1)}).list; len(l) != api.MaxArena-1 || l[0] != at(1) || l[len(l)-1] != at(api.MaxArena-1) {
		t.Errorf("Split gives %d", len(l))
	}
	for i := range uint64(api.MaxArena - 1) {
		if a := p.do(call{'I', at(api.MaxArena - i)}); a.code != api.OK {
			t.Fatalf("Insert of %d behind Split: %d", api.MaxArena-i, a.code)
		}
	}
	if times := times(p.q.List()); len(times) != api.MaxArena || times[0] != 0 || times[api.MaxArena-1] != api.MaxArena {
		t.Errorf("%d events", len(times))
	}
}
