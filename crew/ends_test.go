package crew_test

import (
	"fmt"
	"runtime"
	"sync"
	"testing"
	"time"

	"horizon/api"
	"horizon/crew"
	"horizon/kernel"
)

// gone waits until no more goroutines are there than were: one that has ended may still be on its way out.
func gone(t *testing.T, were int) {
	t.Helper()
	for range 500 {
		if runtime.NumGoroutine() <= were {
			return
		}
		time.Sleep(10 * time.Millisecond)
	}
	t.Errorf("%d goroutines, %d ahead of the calls", runtime.NumGoroutine(), were)
}

// 15.4: whichever way a call ends, its goroutines have ended.
func TestGoroutinesEnd(t *testing.T) {
	were := runtime.NumGoroutine()
	m := maker{chance: 154}
	for range 200 {
		p := m.plan(t)
		l := m.layout(p)
		crew.Run(p, l)
		crew.Until(p, l, m.below(4))
		crew.Sweep(p, []uint64{1, 2, 3}, 1+m.below(5))
	}
	for _, l := range noLayouts() {
		crew.Run(clockwork(), l)
	}
	crew.Sweep(clockwork(), make([]uint64, 300), 3)
	crew.Sweep(clockwork(), nil, 64)
	gone(t, were)
}

// 15.4: they have ended when the call answers, not some time later. With one thread nobody goes out while the call's own goroutine goes on; now and then one may have been held up on its very last step.
func TestEndedAtTheAnswer(t *testing.T) {
	p := scenario(t, shop)
	p.Budget = 9
	l, _ := kernel.Spread(p, 64, 1)
	defer runtime.GOMAXPROCS(runtime.GOMAXPROCS(1))
	for what, call := range []func(){
		func() { crew.Run(p, l) },
		func() { crew.Run(clockwork(look(6)), pair()) },
		func() { crew.Run(clockwork(), alone(1)) },
		func() { crew.Until(p, l, 1) },
		func() { crew.Sweep(p, make([]uint64, 64), 64) },
	} {
		late := 0
		for range 40 {
			were := runtime.NumGoroutine()
			call()
			if runtime.NumGoroutine() > were {
				late++
			}
			gone(t, were)
		}
		if late > 20 {
			t.Errorf("call %d: goroutines were left %d times", what, late)
		}
	}
}

// 15.4: a worker that gives up, by a fault or for want of room, holds up none of the others, whichever it is.
func TestOneGivesUp(t *testing.T) {
	were := runtime.NumGoroutine()
	text := "look 3 end 400 kind k, stop type T { var n on k(x) { n = n + 1 send k(x) to me after 3 } on stop(x) { if x == 0 { fail 1 } send k(0) to me after 3 send k(0) to me after 3 } } place t[64] : T start k(1) to t at 0 start stop(%d) to t[%d] at 30"
	for who := range 64 {
		p := scenario(t, fmt.Sprintf(text, 0, who))
		l, _ := kernel.Spread(p, 64, 1)
		r, err := crew.Run(p, l)
		if r.Kind != api.Fault || r.Code != api.FaultUser || r.At.Time != 30 || r.At.Src != who || err == nil {
			t.Fatalf("%d: kind %d, code %d, at %v, %v", who, r.Kind, r.Code, r.At, err)
		}
		p = scenario(t, fmt.Sprintf(text, 1, who))
		l.Arena = 2
		r, err = crew.Run(p, l)
		if j, _ := lackOf(p, l); r.Kind != api.Resource || r.Window != j || err == nil {
			t.Fatalf("%d: kind %d, window %d, %v", who, r.Kind, r.Window, err)
		}
	}
	gone(t, were)
}

// 15.4, 0.5: the same call gives the same, however many goroutines run at a time.
func TestAnySpeed(t *testing.T) {
	m := maker{chance: 1540}
	for range 60 {
		p := m.plan(t)
		l := m.layout(p)
		j, _ := lackOf(p, l)
		for _, threads := range []int{1, 2, 3, 8} {
			was := runtime.GOMAXPROCS(threads)
			for range 5 {
				r, err := crew.Run(p, l)
				wantAnswer(t, threads, r, err, promised(p, j))
				r, err = crew.Until(p, l, 2)
				wantAnswer(t, threads, r, err, stopped(p, j, 2))
			}
			runtime.GOMAXPROCS(was)
		}
	}
}

// 15.4, 0.3: calls at the same time, of the same arguments and of others, know nothing of one another.
func TestSideBySide(t *testing.T) {
	m := maker{chance: 33}
	var wait sync.WaitGroup
	for range 40 {
		p := m.plan(t)
		l := m.layout(p)
		j, _ := lackOf(p, l)
		want, short := promised(p, j), stopped(p, j, 1)
		for range 3 {
			wait.Go(func() {
				if r, err := crew.Run(p, l); answer(r, err) != answer(want, errOf(want)) {
					t.Errorf("the answer is\n%s\nnot\n%s", answer(r, err), tell(want))
				}
				if r, err := crew.Until(p, l, 1); answer(r, err) != answer(short, errOf(short)) {
					t.Errorf("the answer is\n%s\nnot\n%s", answer(r, err), tell(short))
				}
				seeds := []uint64{p.Seed, 5, p.Seed}
				if l, _ := crew.Sweep(p, seeds, 2); tell(l[0]) != tell(l[2]) || tell(l[0]) != tell(promised(p, 0)) {
					t.Errorf("the first result is\n%s", tell(l[0]))
				}
			})
		}
	}
	wait.Wait()
}
