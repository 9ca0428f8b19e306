package warp_test

import (
	"strings"
	"testing"

	"horizon/api"
	"horizon/seqrun"
	"horizon/warp"
)

// 18.2: nothing to execute is asked ahead of whether there is room, and events from End on are not to be executed.
func TestIdle(t *testing.T) {
	team := made(t, exchange(end(14)), two(1))
	steps(t, team, 0, api.WarpRan) // sends 5.0.1
	steps(t, team, 1, api.WarpRan) // sends 10.1.1; 9.1.0 waits
	steps(t, team, 0, api.WarpFull)
	gathers(t, team, 2)
	steps(t, team, 1, api.WarpRan) // 9.1.0 sends 14.1.2, which is at the end
	steps(t, team, 0, api.WarpRan) // 10.1.1 sends 15.0.2
	wantView(t, team, 0, "14.1.2|10.1.1||0 0")
	steps(t, team, 0, api.WarpIdle, api.WarpIdle)
	steps(t, team, 1, api.WarpIdle)
	wantView(t, team, 0, "14.1.2|10.1.1||0 0")
	wantView(t, team, 1, "15.0.2|9.1.0||0 0")

	team = made(t, exchange(end(0)), two(9))
	steps(t, team, 0, api.WarpIdle)
	team = made(t, exchange(end(1)), two(9))
	steps(t, team, 0, api.WarpRan, api.WarpIdle)
	team = made(t, exchange(), wide(3, 0, 2))
	steps(t, team, 1, api.WarpIdle, api.WarpIdle)
}

// gate: the part 1 fails at use, unless set has come to it first; part 0 sends set at 5, and something from End on at 50.
const gate = `look 1 end 50 kind go, set, use
type A { on go(x) { send set(x) to 1 after 5 send use(0) to 1 after 50 } }
type B { var n on set(x) { n = x } on use(x) { if n == 0 { fail 1 } n = n + 1 send go(0) to 0 after 90 } }
place a : A
place b : B
start go(7) to a at 0
start use(1) to b at 2
start use(1) to b at 9
`

// 18.2: a handler that fails leaves all as it was, and is tried again with the next step; mail is taken in also by steps that execute nothing.
func TestStuck(t *testing.T) {
	p := scenario(t, gate)
	p.Starts = []api.Start{p.Starts[0], p.Starts[2]}
	team := made(t, p, wide(2, 0, 1))
	steps(t, team, 1, api.WarpStuck, api.WarpStuck)
	wantView(t, team, 1, "9.1.0|||0 0")
	steps(t, team, 0, api.WarpRan)
	wantView(t, team, 1, "9.1.0||5.0.1 50.0.2|0 0")
	steps(t, team, 1, api.WarpRan, api.WarpRan, api.WarpIdle)
	wantView(t, team, 1, "50.0.2|5.0.1 9.1.0||0 0")
	gathers(t, team, 3)
	r := team.Result()
	wantResult(t, "over", r, seqrun.Run(p))
	if r.Kind != api.Done || r.States[1].Words[0] != 8 {
		t.Errorf("the result is\n%s", tell(r))
	}
}

// 18.2: mail is taken in first, by a stuck worker, a full one and an idle one alike.
func TestMailFirst(t *testing.T) {
	p := scenario(t, gate)
	team := made(t, p, wide(2, 0, 1))
	steps(t, team, 0, api.WarpRan)
	wantView(t, team, 1, "2.1.0 9.1.1||5.0.1 50.0.2|0 0")
	steps(t, team, 1, api.WarpStuck)
	wantView(t, team, 1, "2.1.0 5.0.1 9.1.1 50.0.2|||0 0")

	l := wide(2, 0, 1)
	l.Undo = 1
	p.Starts[1].Kind = 1 // set at 2, which does not fail
	team = made(t, p, l)
	steps(t, team, 1, api.WarpRan)
	steps(t, team, 0, api.WarpRan)
	steps(t, team, 1, api.WarpFull)
	wantView(t, team, 1, "5.0.1 9.1.1 50.0.2|2.1.0||0 0")

	p.Starts = p.Starts[:1]
	p.End = 1
	team = made(t, p, l)
	steps(t, team, 0, api.WarpRan)
	steps(t, team, 1, api.WarpIdle)
	wantView(t, team, 1, "5.0.1 50.0.2|||0 0")
}

// 18.2: whether there is room is asked ahead of the handler: a full worker is not stuck.
func TestFullAheadOfStuck(t *testing.T) {
	p := scenario(t, gate)
	p.Starts[1].Kind, p.Starts[1].Data = 1, 0 // it sets nothing: the use behind it fails
	l := wide(2, 0, 1)
	l.Undo = 1
	team := made(t, p, l)
	steps(t, team, 1, api.WarpRan, api.WarpFull, api.WarpFull)
	gathers(t, team, 0)
	steps(t, team, 0, api.WarpRan)
	gathers(t, team, 2)
	steps(t, team, 1, api.WarpRan)
}

// fan: a part sends to itself, to its neighbours and to itself again, in a mixed order of times.
const fan = `look 1 end 90 kind go, ping
type A { var n on go(x) { n = n + 1 send ping(1) to 1 after 9 send ping(2) to 0 after 8 send ping(3) to 2 after 7 send ping(4) to 1 after 6 send ping(5) to 0 after 5 } on ping(x) { n = n * 2 + x } }
place a[3] : A
start go(0) to a[0] at 10
`

// 18.2, 18.5: what is sent goes out in the order of sending: to a part of the same worker at once, to others as letters; Pending is seen in the order of keys, Mail in that of sending.
func TestSending(t *testing.T) {
	p := scenario(t, fan)
	team := made(t, p, wide(2, 0, 1, 1))
	steps(t, team, 0, api.WarpRan)
	wantView(t, team, 0, "15.0.5 18.0.2|10.0.0||0 0")
	wantView(t, team, 1, "||19.0.1 17.0.3 16.0.4|0 0")
	steps(t, team, 1, api.WarpRan)
	wantView(t, team, 1, "17.0.3 19.0.1|16.0.4||0 0")
	v := view(t, team, 1)
	if texts(v.Pending) != "17.0.3>2:1=3 19.0.1>1:1=1" || texts(v.Done) != "16.0.4>1:1=4" {
		t.Errorf("View(1) is\n%s", tellView(v))
	}
	// All parts with one worker: nothing is mail.
	team = made(t, p, wide(1, 0, 0, 0))
	steps(t, team, 0, api.WarpRan)
	wantView(t, team, 0, "15.0.5 16.0.4 17.0.3 18.0.2 19.0.1|10.0.0||0 0")
}

// late: the part 3 sends go to the part 0 at its time and 1; fan as before, which the part 0 does at 10.
const late = `look 1 end 90 kind go, ping, call
type A { var n on go(x) { n = n + 1 send ping(1) to 1 after 9 send ping(2) to 0 after 8 send ping(3) to 2 after 7 send ping(4) to 1 after 6 send ping(5) to 0 after 5 } on ping(x) { n = n * 2 + x } }
type B { on call(x) { send ping(x) to 0 after 1 } }
place a[3] : A
place b : B
start go(0) to a[0] at 10
start call(9) to b at 4
`

// 18.2 (to undo, to take in an event): what the worker has executed above the letter's key is undone, the last one first, and what it sent is taken back in the order of sending: its own from Pending, others' by anti-events.
func TestUndo(t *testing.T) {
	p := scenario(t, late)
	team := made(t, p, wide(3, 0, 1, 1, 2))
	steps(t, team, 0, api.WarpRan, api.WarpRan) // 10.0.0 and its own ping at 15
	wantView(t, team, 0, "18.0.2|10.0.0 15.0.5||0 0")
	steps(t, team, 2, api.WarpRan) // ping to part 0 at 5
	wantView(t, team, 0, "18.0.2|10.0.0 15.0.5|5.3.1|0 0")
	steps(t, team, 0, api.WarpRan) // both are undone, then 5.3.1 is executed
	wantView(t, team, 0, "10.0.0|5.3.1||2 3")
	wantView(t, team, 1, "||19.0.1 17.0.3 16.0.4 -19.0.1 -17.0.3 -16.0.4|0 0")
	steps(t, team, 1, api.WarpIdle)
	wantView(t, team, 1, "|||0 0")
	steps(t, team, 0, api.WarpRan) // 10.0.0 again, with the same keys
	wantView(t, team, 0, "15.0.5 18.0.2|5.3.1 10.0.0||2 3")
	wantView(t, team, 1, "||19.0.1 17.0.3 16.0.4|0 0")
	gathers(t, team, 3)
	if r := team.Result(); r.Kind != api.Unfinished || keys(r.Trace) != "4.3.0 5.3.1 10.0.0" || r.States[0].Words[0] != 10 || r.States[0].Sent != 6 {
		t.Errorf("the result is\n%s", tell(r))
	}
}

// 18.2 (to take in an event): only what lies above its key is undone; what lies below stays executed.
func TestUndoInPart(t *testing.T) {
	p := scenario(t, late)
	p.Starts[1].Time = 12 // ping to part 0 at 13
	team := made(t, p, wide(3, 0, 1, 1, 2))
	steps(t, team, 0, api.WarpRan, api.WarpRan, api.WarpRan, api.WarpIdle)
	wantView(t, team, 0, "|10.0.0 15.0.5 18.0.2||0 0")
	steps(t, team, 2, api.WarpRan)
	steps(t, team, 0, api.WarpRan)
	wantView(t, team, 0, "15.0.5 18.0.2|10.0.0 13.3.1||2 0")
	wantView(t, team, 1, "||19.0.1 17.0.3 16.0.4|0 0")
}

// 18.2: whether something was too early is asked of the worker, not of the part: another part's event is undone, too.
func TestUndoOfOtherPart(t *testing.T) {
	p := scenario(t, late+"start ping(1) to a[2] at 6")
	team := made(t, p, wide(2, 0, 0, 0, 1))
	steps(t, team, 0, api.WarpRan) // 6.2.0, to part 2
	steps(t, team, 1, api.WarpRan) // 5.3.1 to part 0
	steps(t, team, 0, api.WarpRan)
	wantView(t, team, 0, "6.2.0 10.0.0|5.3.1||1 0")
}

// 18.2 (to take in an anti-event): an event that is pending leaves Pending, and nothing is undone.
func TestAntiOfPending(t *testing.T) {
	p := scenario(t, late+"start ping(1) to a[1] at 2")
	team := made(t, p, wide(3, 0, 1, 1, 2))
	steps(t, team, 0, api.WarpRan)
	steps(t, team, 1, api.WarpRan) // 2.1.0; three pings are pending
	wantView(t, team, 1, "16.0.4 17.0.3 19.0.1|2.1.0||0 0")
	steps(t, team, 2, api.WarpRan)
	steps(t, team, 0, api.WarpRan) // undoes 10.0.0
	wantView(t, team, 1, "16.0.4 17.0.3 19.0.1|2.1.0|-19.0.1 -17.0.3 -16.0.4|0 0")
	steps(t, team, 1, api.WarpIdle)
	wantView(t, team, 1, "|2.1.0||0 0")
}

// 18.2 (to take in an anti-event): an event that was executed is undone with all that was executed behind it; these stay pending.
func TestAntiOfDone(t *testing.T) {
	p := scenario(t, late+"start ping(1) to a[1] at 18 start ping(2) to a[2] at 30")
	team := made(t, p, wide(3, 0, 1, 1, 2))
	steps(t, team, 0, api.WarpRan)
	steps(t, team, 1, api.WarpRan, api.WarpRan, api.WarpRan, api.WarpRan, api.WarpRan)
	wantView(t, team, 1, "|16.0.4 17.0.3 18.1.0 19.0.1 30.2.0||0 0")
	steps(t, team, 2, api.WarpRan)
	steps(t, team, 0, api.WarpRan)
	steps(t, team, 1, api.WarpRan)
	// -19.0.1 undoes two; -17.0.3 two more, and -16.0.4 one. Then 18.1.0 is executed anew.
	wantView(t, team, 1, "30.2.0|18.1.0||5 0")
	steps(t, team, 0, api.WarpRan)
	wantView(t, team, 1, "30.2.0|18.1.0|19.0.1 17.0.3 16.0.4|5 0")
	steps(t, team, 1, api.WarpRan)
	wantView(t, team, 1, "17.0.3 18.1.0 19.0.1 30.2.0|16.0.4||6 0")
	r, err := warp.Fair(p, wide(3, 0, 1, 1, 2), 100)
	wantAnswer(t, "by turns", r, err, seqrun.Run(p))
}

// turning: the part 0 sends ping to the part that its word says; set changes the word.
const turning = `look 1 end 90 kind go, set, ping, call
type A { var aim = 1 var r on go(x) { r = roll(100) send ping(r) to aim after 5 + r % 3 send ping(x) to 2 after 20 } on set(x) { aim = x } }
type C { var n on ping(x) { n = n * 3 + x + 1 } on call(x) { send set(x) to 0 after 2 } }
place a : A
place c[3] : C
start go(4) to a at 10
start call(AIM) to c[2] at 3
`

// 18.2: an undone event that is executed anew rolls the same dice and sends with the same keys again, perhaps to other parts, of its own worker too.
func TestExecutedAnew(t *testing.T) {
	for _, aim := range []string{"0", "2", "3"} {
		p := scenario(t, strings.Replace(turning, "AIM", aim, 1))
		team := made(t, p, wide(3, 0, 1, 0, 2))
		steps(t, team, 0, api.WarpRan)
		old := view(t, team, 1).Mail
		if len(old) != 1 || old[0].Anti || old[0].Event.Dst != 1 {
			t.Fatalf("View(1) is\n%s", tellView(view(t, team, 1)))
		}
		steps(t, team, 1, api.WarpRan) // the old one is executed
		steps(t, team, 2, api.WarpRan) // call
		steps(t, team, 0, api.WarpRan, api.WarpRan)
		v := view(t, team, 0)
		if v.Back != 1 || v.Anti != 1 || keys(v.Done) != "5.3.1 10.0.0" {
			t.Fatalf("View(0) is\n%s", tellView(v))
		}
		if l := view(t, team, 1).Mail; len(l) != 1 || !l[0].Anti || l[0].Event != old[0].Event {
			t.Fatalf("View(1) is\n%s", tellView(view(t, team, 1)))
		}
		anew := append(v.Pending, eventsOf(view(t, team, 2).Mail)...)
		found := false
		for _, e := range anew {
			found = found || e.Key == old[0].Event.Key && e.Data == old[0].Event.Data && e.Dst != 1
		}
		if !found {
			t.Fatalf("to %s: %s is not sent anew", aim, keyText(old[0].Event.Key))
		}
		steps(t, team, 1, api.WarpIdle)
		wantView(t, team, 1, "|||1 0")
		for !team.Over() {
			for w := range 3 {
				team.Step(w)
			}
			team.Gather()
		}
		wantResult(t, "to "+aim, team.Result(), seqrun.Run(p))
	}
}

func eventsOf(l []api.Letter) (events []api.Event) {
	for _, x := range l {
		if !x.Anti {
			events = append(events, x.Event)
		}
	}
	return events
}

// 18.2, 18.12: just Undo events may be in Done; what is undone makes room again.
func TestRoomForUndo(t *testing.T) {
	p := scenario(t, late)
	for _, undo := range []int{1, 2, 3, 4} {
		l := wide(3, 0, 1, 1, 2)
		l.Undo = undo
		team := made(t, p, l)
		want := []int{api.WarpRan, api.WarpRan, api.WarpRan, api.WarpIdle}
		if undo < 3 {
			want = append(want[:undo], api.WarpFull, api.WarpFull)
		}
		steps(t, team, 0, want...)
		steps(t, team, 2, api.WarpRan)
		steps(t, team, 0, api.WarpRan) // 5.3.1: all others were undone
		if v := view(t, team, 0); keys(v.Done) != "5.3.1" || v.Back != min(undo, 3) {
			t.Errorf("View(0) is\n%s", tellView(v))
		}
	}
}
