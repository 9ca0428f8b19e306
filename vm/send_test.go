package vm_test

import (
	"math"
	"math/big"
	"slices"
	"strings"
	"testing"

	"horizon/api"
	"horizon/dice"
	"horizon/vm"
)

// sender sends its data to the part of its first word after its second one.
func sender(t *testing.T) api.Program {
	t.Helper()
	return made(t, 2, 0, []int{0, -1, -1}, "data, load 0, load 1, send 2, stop")
}

// 6.3: each number of a send at its limits, one past them, and several wrong at once: the first one is told.
func TestSendFaults(t *testing.T) {
	for _, c := range []struct {
		time, look    uint64
		target, delay int64
		want          api.Errno
	}{
		{10, 5, 0, 5, api.OK}, {10, 5, 2, 5, api.OK}, {10, 5, 3, 5, api.FaultTarget}, {10, 5, -1, 5, api.FaultTarget}, {10, 5, math.MaxInt64, 5, api.FaultTarget}, {10, 5, math.MinInt64, 5, api.FaultTarget}, {10, 5, 1 << 32, 5, api.FaultTarget},
		{10, 5, 0, 4, api.FaultDelay}, {10, 5, 0, 0, api.FaultDelay}, {10, 5, 0, -1, api.FaultDelay}, {10, 0, 0, -1, api.FaultDelay}, {10, 0, 0, math.MinInt64, api.FaultDelay}, {10, 0, 0, 0, api.OK}, {10, 1, 0, math.MaxInt64, api.OK},
		{10, 1 << 63, 0, math.MaxInt64, api.FaultDelay}, {10, math.MaxUint64, 0, math.MaxInt64, api.FaultDelay}, {10, math.MaxUint64, 0, -1, api.FaultDelay}, {10, math.MaxInt64, 0, math.MaxInt64, api.OK},
		{math.MaxUint64, 0, 0, 0, api.OK}, {math.MaxUint64, 0, 0, 1, api.FaultTime}, {math.MaxUint64 - 9, 9, 0, 9, api.OK}, {math.MaxUint64 - 9, 9, 0, 10, api.FaultTime}, {1 << 63, 1, 0, math.MaxInt64, api.OK}, {1<<63 + 1, 1, 0, math.MaxInt64, api.FaultTime},
		{math.MaxUint64, 5, 3, 1, api.FaultTarget}, {math.MaxUint64, 5, 0, 4, api.FaultDelay}, {math.MaxUint64, 0, 0, -1, api.FaultDelay}, {math.MaxUint64, 0, -1, -1, api.FaultTarget},
	} {
		call := api.Call{
			Event: api.Event{Key: api.Key{Time: c.time, Src: 1, Seq: 1}, Dst: 1, Data: -6},
			State: api.State{Words: []int64{c.target, c.delay}, Dice: 5, Sent: 8},
			Look:  c.look, Parts: 3, Fuel: 5,
		}
		want := api.Effect{Code: c.want, State: call.State, Used: 4}
		if c.want == api.OK {
			want.State.Sent, want.Used = 9, 5
			want.Out = []api.Event{{Key: api.Key{Time: c.time + uint64(c.delay), Src: 1, Seq: 8}, Dst: int(c.target), Kind: 2, Data: -6}}
		}
		checkRun(t, sender(t), call, want)
	}
}

// 6.3: as many events as may be, and one more; in the order of sending, with keys that count on, behind the last number too.
func TestSendMany(t *testing.T) {
	for n := range 20 {
		for _, sent := range []uint64{0, 7, math.MaxUint64 - 3, math.MaxUint64} {
			p := made(t, 1, 0, []int{0}, strings.Repeat("load 0, me, push 1, send 0, load 0, push 1, add, save 0, ", n)+"stop")
			c := api.Call{Event: api.Event{Key: api.Key{Time: 4}, Dst: 1}, State: api.State{Words: []int64{0}, Sent: sent}, Parts: 2, Fuel: 400}
			want := api.Effect{State: api.State{Words: []int64{int64(n)}, Sent: sent + uint64(n)}, Used: 8*n + 1}
			for i := range n {
				want.Out = append(want.Out, api.Event{Key: api.Key{Time: 5, Src: 1, Seq: sent + uint64(i)}, Dst: 1, Data: int64(i)})
			}
			if n > api.MaxOut {
				want = api.Effect{Code: api.FaultOut, State: c.State, Used: 8*api.MaxOut + 4}
			}
			checkRun(t, p, c, want)
		}
	}
}

// 6.3: where as many events were sent as may be, a wrong target and a wrong delay come ahead of that, a time beyond 64 bits behind it.
func TestSendTooManyAndWrong(t *testing.T) {
	for _, c := range []struct {
		last string
		want api.Errno
	}{
		{"push 0, push 2, push 1, send 0", api.FaultTarget}, {"push 0, push 0, push 0, send 0", api.FaultDelay}, {"push 0, push 0, push -1, send 0", api.FaultDelay},
		{"push 0, push 0, push 1, send 0", api.FaultOut}, {"push 0, push 0, push 6, send 0", api.FaultOut},
	} {
		p := made(t, 0, 0, []int{0}, strings.Repeat("push 0, push 0, push 1, send 0, ", api.MaxOut)+c.last+", stop")
		call := api.Call{Event: api.Event{Key: api.Key{Time: math.MaxUint64 - 5}}, State: api.State{Sent: 3}, Look: 1, Parts: 2, Fuel: 100}
		checkRun(t, p, call, api.Effect{Code: c.want, State: call.State, Used: 4*api.MaxOut + 4})
	}
}

// 6.3: of all parts that may be, the last one is sent to, and the one behind it is none.
func TestSendToEachPart(t *testing.T) {
	for _, parts := range []int{1, 2, 63, 64} {
		for target := -1; target <= 65; target++ {
			c := api.Call{State: api.State{Words: []int64{int64(target), 0}}, Parts: parts, Fuel: 9}
			got := vm.Run(sender(t), c)
			if target >= 0 && target < parts {
				if got.Code != api.OK || len(got.Out) != 1 || got.Out[0].Dst != target {
					t.Errorf("to %d of %d: %+v", target, parts, got)
				}
			} else if got.Code != api.FaultTarget {
				t.Errorf("to %d of %d: %+v", target, parts, got)
			}
		}
	}
}

// 6.3: a roll is dice.Below with the state's stream, one behind the other; the new stream is kept, unless the handler fails.
func TestRoll(t *testing.T) {
	for _, n := range []int64{1, 2, 6, 1000, 1 << 62, 1<<62 + 1, math.MaxInt64} {
		for s := range uint64(50) {
			p := made(t, 2, 0, []int{0}, "data, roll, save 0, data, roll, save 1, stop")
			c := api.Call{Event: api.Event{Data: n}, State: api.State{Words: []int64{-1, -1}, Dice: s * 12345678901234567}, Parts: 1, Fuel: 7}
			x, one, _ := dice.Below(c.State.Dice, uint64(n))
			y, two, _ := dice.Below(one, uint64(n))
			checkRun(t, p, c, api.Effect{State: api.State{Words: []int64{int64(x), int64(y)}, Dice: two}, Used: 7})
			p.Code[6].Op = api.IFail
			p.Code = slices.Insert(p.Code, 6, api.Instr{Op: api.IMe})
			c.Fuel = 8
			checkRun(t, p, c, api.Effect{Code: api.FaultUser, State: c.State, Used: 8})
		}
	}
}

// waiter waits with its data for a mean.
func waiter(t *testing.T, s uint64, mean int64) (api.Program, api.Call) {
	t.Helper()
	p := made(t, 1, 0, []int{0}, "data, wait, save 0, stop")
	return p, api.Call{Event: api.Event{Data: mean}, State: api.State{Words: []int64{-1}, Dice: s}, Parts: 1, Fuel: 4}
}

// 6.3: a wait is dice.Wait; a number that no int64 holds, and one that no uint64 holds, are faults.
func TestWait(t *testing.T) {
	right, high, beyond := 0, 0, 0
	for s := range uint64(2000) {
		for _, mean := range []int64{1, 1000, 1 << 61, 1 << 62, math.MaxInt64} {
			p, c := waiter(t, s*987654321987654321, mean)
			x, behind, code := dice.Wait(c.State.Dice, uint64(mean))
			want := api.Effect{State: api.State{Words: []int64{int64(x)}, Dice: behind}, Used: 4}
			switch {
			case code != api.OK:
				beyond++
				want = api.Effect{Code: api.FaultTime, State: c.State, Used: 2}
			case x >= 1<<63:
				high++
				want = api.Effect{Code: api.FaultTime, State: c.State, Used: 2}
			default:
				right++
			}
			checkRun(t, p, c, want)
		}
	}
	if right < 100 || high < 100 || beyond < 100 {
		t.Errorf("%d, %d, %d", right, high, beyond)
	}
}

// 6.3: the longest wait that there is, and one more: a mean is sought with which just that number comes.
func TestWaitLongest(t *testing.T) {
	last, past := 0, 0
	for s := range uint64(3000) {
		state := s * 987654321987654321
		share, _, _ := dice.Wait(state, 1<<32)
		for _, number := range []uint64{math.MaxInt64, 1 << 63} {
			mean := new(big.Int).Lsh(new(big.Int).SetUint64(number), 32)
			mean.Add(mean, new(big.Int).SetUint64(share-1)).Quo(mean, new(big.Int).SetUint64(share))
			if !mean.IsInt64() {
				continue
			}
			x, behind, code := dice.Wait(state, mean.Uint64())
			if code != api.OK || x != number {
				continue
			}
			p, c := waiter(t, state, mean.Int64())
			if number == math.MaxInt64 {
				last++
				checkRun(t, p, c, api.Effect{State: api.State{Words: []int64{math.MaxInt64}, Dice: behind}, Used: 4})
			} else {
				past++
				checkRun(t, p, c, api.Effect{Code: api.FaultTime, State: c.State, Used: 2})
			}
		}
	}
	if last < 10 || past < 10 {
		t.Errorf("%d, %d", last, past)
	}
}
