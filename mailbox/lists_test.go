package mailbox_test

import (
	"runtime"
	"slices"
	"strings"
	"testing"
	"weak"

	"horizon/api"
	"horizon/mailbox"
)

// 0.4, 9.5, 9.9: a list shares memory with nothing: not with what lies in the post, not with another list, nor the room behind it.
func TestListsAreApart(t *testing.T) {
	c := chance(99)
	bad := thing{-7, -7}
	for range 40 {
		workers, room := 1+c.below(3), 1+c.below(9)
		p, s := made(t, workers, room, byRank), newSlow(workers, room)
		var lists, kept [][]thing
		for i := range 1500 {
			a := alike(t, p, s, c.thrown(workers, 5, i))
			if len(a.list) == 0 {
				continue
			}
			lists, kept = append(lists, a.list), append(kept, slices.Clone(a.list))
			if c.below(3) == 0 {
				at := c.below(len(lists))
				spoil(lists[at], bad)
				for j := range kept[at] {
					kept[at][j] = bad
				}
			}
		}
		for i := range lists {
			if !slices.Equal(lists[i], kept[i]) {
				t.Fatalf("list %d is %v, not %v", i, lists[i], kept[i])
			}
		}
	}
}

// 9.9: who appends to a list writes into nothing else, nor does the post write behind it.
func TestAppendToLists(t *testing.T) {
	p := made(t, 1, 100, byNumber)
	var lists [][]int
	for round := range 60 {
		for i := range round {
			p.Send(0, 0, 1000*round+i)
		}
		p.Flip(0)
		l, _ := p.Drain(0)
		lists = append(lists, append(l, -round))
	}
	for round, l := range lists {
		if len(l) != round+1 || l[round] != -round {
			t.Fatalf("list %d is %v", round, l)
		}
		for i := range round {
			if l[i] != 1000*round+i {
				t.Fatalf("list %d is %v", round, l)
			}
		}
	}
}

// 0.3, 9.9: two posts know nothing of one another, of one type or of several.
func TestTwoPosts(t *testing.T) {
	c := chance(3)
	var posts [4]*mailbox.Post[thing]
	var slows [4]*slow
	for i := range posts {
		posts[i], slows[i] = made(t, i+1, 3, byRank), newSlow(i+1, 3)
	}
	words := made(t, 1, 9, strings.Compare)
	words.Send(0, 0, "b")
	words.Send(0, 0, "a")
	for i := range 6000 {
		at := c.below(4)
		alike(t, posts[at], slows[at], c.thrown(at+1, 5, i))
		for j := range posts {
			if a, b := look(posts[j], j+1), look(slows[j], j+1); !slices.Equal(a, b) {
				t.Fatalf("post %d is %v, not %v", j, a, b)
			}
		}
	}
	words.Flip(0)
	if l, code := words.Drain(0); !slices.Equal(l, []string{"a", "b"}) || code != api.OK {
		t.Errorf("Drain is %v, %d", l, code)
	}
}

// 9.9: the same calls are answered alike again.
func TestSameCallsSameAnswers(t *testing.T) {
	a, b := made(t, 4, 2, byRank), made(t, 4, 2, byRank)
	c := chance(90)
	for i := range 5000 {
		x := c.thrown(4, 5, i)
		if a, b := do(a, x), do(b, x); !sameAnswer(a, b) {
			t.Fatalf("%v is %v, then %v", x, a, b)
		}
	}
}

// gone tells whether nothing holds on to what these point to.
func gone(l []weak.Pointer[[100]int]) bool {
	for range 10 {
		runtime.GC()
	}
	for _, x := range l {
		if x.Value() != nil {
			return false
		}
	}
	return true
}

// Ways: a post holds on to nothing that was handed out or taken back.
func TestHoldsOnToNothing(t *testing.T) {
	p := made[*[100]int](t, 2, 50, nil)
	send := func(n int) (l []weak.Pointer[[100]int]) {
		for i := range n {
			v := new([100]int)
			p.Send(i&1, 1, v)
			l = append(l, weak.Make(v))
		}
		return l
	}
	drained := send(90)
	p.Flip(0)
	p.Flip(1)
	if gone(drained) {
		t.Fatal("what lies in the post is gone")
	}
	if l, code := p.Drain(1); len(l) != 90 || code != api.OK {
		t.Fatalf("Drain has %d things, %d", len(l), code)
	}
	if !gone(drained) {
		t.Error("the post holds on to what a Drain has handed out")
	}
	dropped := send(70)
	p.Drop(0)
	p.Drop(1)
	if !gone(dropped) {
		t.Error("the post holds on to what a Drop has taken back")
	}
	runtime.KeepAlive(p)
}
