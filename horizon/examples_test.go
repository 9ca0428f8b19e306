package horizon_test

import (
	"strings"
	"testing"
)

// 19.9, DOC.md's example 2: the chapter's script.
func TestChapterExample(t *testing.T) {
	answers(t, model(clock)+`run seq
trace
state c 1
spread 2 1
run fair
balance
save 1
crash 60
scan
resume 1
histogram 5
state d
run picks 0 1 0 1
bogus
`, `ok parts 2 kinds 1 types 1
ok done events 6
ok 6
  0.0.0>0:0=1
  0.1.0>1:0=1
  5.0.1>0:0=2
  5.1.1>1:0=2
  10.0.2>0:0=3
  10.1.2>1:0=3
ok n=6
ok owner 0 1
ok done events 6
ok 3 3
ok bytes 333 sum 3330392654
ok bytes 60
ok records 1 bytes 26 error 11
ok done events 6 bytes 333
ok 3
  0 2
  5 2
  10 2
error 51
ok unfinished events 0
error 190
`)
}

// 19.6, 19.8: the chapter's further scripts.
func TestChapterFurtherExamples(t *testing.T) {
	answers(t, "run seq", "error 192\n")
	answers(t, "trace 3", "error 191\n")
	answers(t, "", "")
	answers(t, "# nothing", "")
	answers(t, "model", "errors 1\n  error 56 at line 1 column 1\n")
	answers(t, "model\nlook x", "error 40 at line 1 column 6\n")
	answers(t, "model\nlook 5 end 9\n.\ntally", idleLoaded+"error 193\n")
	answers(t, "model\nlook 5 end 9\n.\ntally\nrun crew\ntally", idleLoaded+"error 193\nok done events 0\nok 0\n")
}

// DOC.md's example 1: nothing at all.
func TestExample1(t *testing.T) {
	answers(t, "model\nlook 5 end 9\n.\nrun seq\nprint\n", idleLoaded+"ok done events 0\nok\n  look 5\n  end 9\n")
}

// DOC.md's example 3: the shop, in order, by turns and by goroutines.
func TestExample3(t *testing.T) {
	answers(t, model(shop)+"run seq\nspread 2 1\nrun fair\nbalance\nrun crew\nstate shop 0\nkinds\ntally\nhistogram 50\n", shopLoaded+`ok done events 52
ok owner 0 1 0 1
ok done events 52
ok 27 25
ok done events 52
ok waiting=1 busy=1 served=3,3
ok 2
  job 27
  done 25
ok 4
  shop[0] events 13 sent 13 first 0 last 199
  shop[1] events 12 sent 12 first 18 last 175
  shop[2] events 14 sent 15 first 4 last 189
  shop[3] events 13 sent 12 first 24 last 195
ok 4
  0 13
  50 12
  100 13
  150 14
`)
}

// DOC.md's example 4: a budget that is used up in the middle of a window.
func TestExample4(t *testing.T) {
	text := strings.Replace(shop, "budget 300", "budget 5", 1)
	answers(t, model(text)+"spread 4 2\nrun fair\ntrace\nchain\n", shopLoaded+`ok owner 0 1 2 3
ok cut events 5
ok 5
  0.0.0>0:0=3
  4.2.0>2:0=8
  12.0.1>0:1=3
  18.0.2>1:0=3
  18.2.1>2:1=8
ok 3
  0 0.0.0>0:0=3
  2 12.0.1>0:1=3
  3 18.0.2>1:0=3
`)
}

// DOC.md's example 5: a handler fails.
func TestExample5(t *testing.T) {
	answers(t, model(breaks)+"run seq\nstate t\nrun crew\ntrace\n", breaksLoaded+`ok fault 201 at 14.0.2 events 2
ok n=1
ok fault 201 at 14.0.2 events 2
ok 2
  10.0.0>0:0=0
  12.0.1>0:0=30
`)
}

// DOC.md's example 6: no room in a box, in an undo log, in a queue.
func TestExample6(t *testing.T) {
	answers(t, model(ring)+`layout 2 99 1 99 0 1 1
run fair
run seq
layout 2 99 99 4 0 1 1
run crew
layout 2 6 99 99 0 1 1
run fair
trace
`, ringLoaded+`ok
ok resource 1 events 0
ok cut events 1000
ok
ok resource 5 events 11
ok
ok resource 4 events 6
ok 6
  0.0.0>0:0=0
  2.0.1>1:0=0
  3.0.2>2:0=1
  4.1.0>2:0=0
  5.1.1>0:0=1
  5.2.0>0:0=1
`)
}

// DOC.md's example 7: the end of time.
func TestExample7(t *testing.T) {
	answers(t, `model
look 10 end 18446744073709551615 kind k
type T { var last on k(x) { last = now send k(x) to me after 10 } }
place t : T
start k(0) to t at 18446744073709551590
.
run seq
trace
state t
`, breaksLoaded+`ok fault 206 at 18446744073709551610.0.2 events 2
ok 2
  18446744073709551590.0.0>0:0=0
  18446744073709551600.0.1>0:0=0
ok last=-16
`)
}

// DOC.md's example 8: each part has a stream of its own.
func TestExample8(t *testing.T) {
	answers(t, `model
seed 42 look 1 end 1000 budget 4 kind k
type D { var r[3] var w on k(x) { r[x] = roll(6) + 1 w = wait(100) send k((x + 1) % 3) to me after max(1, w) } }
place d : D
place e : D
start k(0) to d at 0
start k(0) to e at 0
.
run seq
trace
state d
state e
`, `ok parts 2 kinds 1 types 1
ok cut events 4
ok 4
  0.0.0>0:0=0
  0.1.0>1:0=0
  33.1.1>1:0=1
  294.0.1>0:0=1
ok r=1,1,0 w=109
ok r=1,6,0 w=427
`)
}

// DOC.md's example 9: written down, a crash, a spoilt byte, another distance.
func TestExample9(t *testing.T) {
	answers(t, model(shop)+"save 3\ncrash 400\nscan\nresume 3\nscan\nspoil 200 9\nscan\nresume 3\nresume 4\n", shopLoaded+`ok bytes 1717 sum 2333105083
ok bytes 400
ok records 9 bytes 355 error 11
ok done events 52 bytes 1717
ok records 41 bytes 1717 whole
ok
ok records 5 bytes 190 error 164
ok done events 52 bytes 1717
error 161 at byte 0
`)
}

// DOC.md's example 10: texts with faults.
func TestExample10(t *testing.T) {
	answers(t, `model
look 5 end 9 end 10
const A = B
kind k, k
type T { var v[70] on k(x) { y = 1 break send j(0) to z after 1 } on k(x) { } }
.
model
look 5 end 9 const A = (1 + 
.
`, `errors 8
  error 50 at line 1 column 14
  error 51 at line 2 column 11
  error 50 at line 3 column 9
  error 54 at line 4 column 16
  error 51 at line 4 column 30
  error 58 at line 4 column 36
  error 51 at line 4 column 42
  error 51 at line 4 column 55
error 41 at line 1 column 28
`)
}
