package horizon_test

import (
	"strings"
	"testing"

	"horizon/horizon"
)

// parts is a model with names of every sort: a part by itself, rows, a type without words, a type that has no part.
const parts = `look 2 end 9 kind a, b, c
type None { on a(x) { } }
type Many { var first = 4 var row[3] = -1 var one[1] on b(x) { row[x] = x * 10 one[0] = me } }
type Spare { var z }
place lone : None
place pair[2] : Many (first = 7, row[1] = 5)
place single[1] : Many
start b(0) to pair at 3
start b(2) to single at 3
start a(9) to lone at 4
start c(0) to lone at 5
start a(1) to lone at 8
`

const partsLoaded = "ok parts 4 kinds 3 types 3\n"

// 19.9: print is the tree in the one layout; listing is a type's program, of one without a part too.
func TestPrintAndListing(t *testing.T) {
	answers(t, model(parts)+"listing None\nlisting Spare\nlisting Many\nlisting lone\nlisting a\nlisting\nlisting none\nlisting -1\n", partsLoaded+`ok
  words 0
  locals 0
  entry 0 - -
  stop
ok
  words 1
  locals 0
  entry - - -
ok
  words 5
  locals 0
  entry - 0 -
  data
  data
  push 10
  mul
  savex 1 3
  push 0
  me
  savex 4 1
  stop
error 51
error 51
error 191
error 51
error 51
`)
	answers(t, "model\nend 007 look 2 const A=(1-2)-3\n.\nprint\nprint", idleLoaded+strings.Repeat("ok\n  end 7\n  look 2\n  const A = 1 - 2 - 3\n", 2))
}

// 19.9: a print that is longer than a text may be is refused by Print's error.
func TestPrintTooLong(t *testing.T) {
	deep := "look 5 end 9 kind k type T { on k(x) {" + strings.Repeat(" if x { ", 40)
	body := strings.Repeat("return ", 2000)
	answers(t, "model\n"+deep+body+strings.Repeat("}", 42)+"\n.\nprint", "ok parts 0 kinds 1 types 1\nerror 30\n")
}

// 19.9: spread lays what kernel.Spread answers; layout lays what it says, owners from none on.
func TestSpreadAndLayout(t *testing.T) {
	answers(t, model(parts)+"run seq\nspread 2 1\nbalance\nspread 2 2\nbalance\nspread 2 3\nbalance\nspread 2 4\nbalance\nspread 64 1\nspread 65 1\nspread -1 1\nspread 1 0\n", partsLoaded+`ok done events 6
ok owner 0 1 0 1
ok 4 2
ok owner 0 0 1 1
ok 4 2
ok owner 0 1 1 0
ok 4 2
ok owner 0 1 1 1
ok 3 3
ok owner 0 1 2 3
error 100
error 100
error 63
`)
	answers(t, model(parts)+"run seq\nlayout 3 6 1 1 2 2 0 2\nbalance\nlayout 1 6 1 1\nlayout 3 5 1 1 2 2 2 2\nlayout 3 6 0 1 0 0 0 0\nlayout 3 6 1 0 0 0 0 0\nlayout 0 6 1 1 0 0 0 0\nlayout 3 6 1 1 0 0 0 3\nbalance\n", partsLoaded+`ok done events 6
ok
ok 1 0 5
error 130
error 131
error 132
error 133
error 100
error 130
ok 1 0 5
`)
	answers(t, model(idle)+"layout 1 1 1 1\nspread 3 2\nrun fair\nbalance", idleLoaded+"ok\nok owner\nok done events 0\nok 0 0 0\n")
}

// 19.9: the numbers of a layout stand for workers, arena, box and undo, in this order: each by itself too small gives another end.
func TestLayoutNumbers(t *testing.T) {
	answers(t, model(ring)+"layout 2 6 99 99 0 1 1\nrun fair\nlayout 2 99 1 99 0 1 1\nrun fair\nlayout 2 99 99 4 0 1 1\nrun fair\nlayout 3 99 99 99 0 1 2\nrun warp\nbalance", ringLoaded+`ok
ok resource 4 events 6
ok
ok resource 1 events 0
ok
ok resource 5 events 11
ok
ok cut events 1000
ok 301 389 310
`)
}

// 19.9: run in every mode; what a run's error says is told by its result.
func TestRunModes(t *testing.T) {
	answers(t, model(clock)+"run seq\nrun fair\nrun crew\nrun warp\nrun picks\nrun picks 0 0 0\nrun picks "+strings.Repeat("0 ", 200)+"\nrun picks -1 99\n", clockLoaded+strings.Repeat("ok done events 6\n", 4)+"ok unfinished events 0\nok unfinished events 0\nok done events 6\nok unfinished events 0\n")
	answers(t, model(breaks)+"run seq\nrun fair\nrun crew\nrun warp\nrun picks 0\n", breaksLoaded+strings.Repeat("ok fault 201 at 14.0.2 events 2\n", 4)+"ok unfinished events 0\n")
	answers(t, model(ring)+"layout 2 99 1 99 0 1 1\nrun seq\nrun fair\nrun crew\nrun warp\n", ringLoaded+"ok\nok cut events 1000\nok resource 1 events 0\nok resource 1 events 0\nok cut events 1000\n")
	answers(t, "model\nlook 1 end 9 budget 0 kind k type T { } place p : T start k(0) to p at 0\n.\nrun seq\nrun fair\nrun crew\nrun warp\n", breaksLoaded+strings.Repeat("ok cut events 0\n", 4))
}

// 19.9: each run becomes the last result, a picked one and one that failed too.
func TestLastResultOfScripts(t *testing.T) {
	answers(t, model(clock)+"run seq\nbalance\nrun picks "+strings.Repeat("0 ", 14)+"\nbalance\nsave 1\nbalance\nrun picks\nbalance\nresume 1\nbalance\n", clockLoaded+`ok done events 6
ok 6
ok unfinished events 2
ok 2
ok bytes 333 sum 3330392654
ok 2
ok unfinished events 0
ok 0
ok done events 6 bytes 333
ok 6
`)
	answers(t, model(breaks)+"run fair\ntrace\nstate t\nchain\n", breaksLoaded+"ok fault 201 at 14.0.2 events 2\nok 2\n  10.0.0>0:0=0\n  12.0.1>0:0=30\nok n=1\nok 2\n  0 10.0.0>0:0=0\n  1 12.0.1>0:0=30\n")
}

// 19.9: state of parts by themselves and in rows, of one and several words, of none.
func TestState(t *testing.T) {
	answers(t, model(parts)+"run seq\nstate lone\nstate lone -1\nstate lone 0\nstate pair 0\nstate pair 1\nstate pair\nstate pair -1\nstate pair 2\nstate pair 01\nstate single 0\nstate single\nstate Many\nstate a\nstate 0\nstate x -1\n", partsLoaded+`ok done events 6
ok
ok
error 54
ok first=7 row=0,5,-1 one=1
ok first=7 row=0,5,-1 one=2
error 54
error 54
error 54
ok first=7 row=0,5,-1 one=2
ok first=4 row=-1,-1,20 one=3
error 54
error 51
error 51
error 51
error 51
`)
}

// 19.9: tally, kinds, histogram and trace with names of parts and kinds.
func TestTallyAndKinds(t *testing.T) {
	answers(t, model(parts)+"run seq\ntally\nkinds\nhistogram 3\nhistogram 1\nhistogram 999999999999999999\nhistogram 0\nhistogram -1\ntrace\nchain\n", partsLoaded+`ok done events 6
ok 4
  lone events 3 sent 3 first 4 last 8
  pair[0] events 1 sent 1 first 3 last 3
  pair[1] events 1 sent 1 first 3 last 3
  single[0] events 1 sent 1 first 3 last 3
ok 3
  b 3
  a 2
  c 1
ok 2
  3 5
  6 1
ok 4
  3 3
  4 1
  5 1
  8 1
ok 1
  0 6
error 170
error 191
ok 6
  3.1.0>1:1=0
  3.2.0>2:1=0
  3.3.0>3:1=2
  4.0.0>0:0=9
  5.0.1>0:2=0
  8.0.2>0:0=1
ok 3
  3 4.0.0>0:0=9
  4 5.0.1>0:2=0
  5 8.0.2>0:0=1
`)
}

// 19.9: save of a run that fails is ok; its distance must be one.
func TestSaveCommand(t *testing.T) {
	answers(t, model(breaks)+"save 1\nscan\ntrace\nresume 1\nsave 0\nsave 65\nsave -1\nscan\nsave 64\nscan\n", breaksLoaded+`ok bytes 192 sum 2171960605
ok records 7 bytes 192 whole
error 193
ok fault 201 at 14.0.2 events 2 bytes 192
error 163
error 163
error 163
ok records 7 bytes 192 whole
ok bytes 122 sum 686627938
ok records 5 bytes 122 whole
`)
}

// 19.9: crash cuts from no byte to all of them; a journal of no byte is still one.
func TestCrash(t *testing.T) {
	answers(t, model(clock)+"save 1\ncrash 334\ncrash 333\nscan\ncrash 332\nscan\ncrash 333\ncrash 0\nscan\ncrash 0\ncrash 1\nspoil 0 1\nresume 1\nscan\ncrash -1\n", clockLoaded+`ok bytes 333 sum 3330392654
error 191
ok bytes 333
ok records 9 bytes 333 whole
ok bytes 332
ok records 8 bytes 315 error 11
error 191
ok bytes 0
ok records 0 bytes 0 error 11
ok bytes 0
error 191
error 191
ok done events 6 bytes 333
ok records 9 bytes 333 whole
error 191
`)
}

// 19.9: spoil adds to a byte, round and round; what is added and taken away leaves the journal whole.
func TestSpoil(t *testing.T) {
	answers(t, model(clock)+"save 1\nspoil 100 1\nscan\nspoil 100 255\nscan\nspoil 332 255\nscan\nspoil 332 1\nspoil 0 0\nscan\nspoil 333 0\nspoil -1 0\nspoil 0 256\nspoil 0 -1\nspoil 8 128\nscan\nresume 1\nspoil 8 128\nscan\n", clockLoaded+`ok bytes 333 sum 3330392654
ok
ok records 2 bytes 78 error 164
ok
ok records 9 bytes 333 whole
ok
ok records 8 bytes 315 error 164
ok
ok
ok records 9 bytes 333 whole
error 191
error 191
error 191
error 191
ok
ok records 0 bytes 0 error 164
error 164 at byte 0
ok
ok records 9 bytes 333 whole
`)
}

// 19.9: resume takes the journal to its end and keeps it; a refused one changes neither journal nor last result.
func TestResumeCommand(t *testing.T) {
	answers(t, model(clock)+"run picks\nsave 2\ncrash 150\nresume 1\nresume 0\nresume 65\nscan\nbalance\nresume 2\nscan\nbalance\nsave 1\nresume 2\nresume 1\n", clockLoaded+`ok unfinished events 0
ok bytes 229 sum 2724804842
ok bytes 150
error 161 at byte 0
error 163
error 163
ok records 4 bytes 132 error 11
ok 0
ok done events 6 bytes 229
ok records 7 bytes 229 whole
ok 6
ok bytes 333 sum 3330392654
error 161 at byte 0
ok done events 6 bytes 333
`)
}

// 19.8: errors of texts at their places, several at once, and at most MaxTold of them; of the codegen too.
func TestErrorsOfTexts(t *testing.T) {
	answers(t, "model\nlook 5 end 9 ?", "error 31 at line 1 column 14\n")
	answers(t, "model\n\n\n  look 99999999999999999999", "error 32 at line 3 column 8\n")
	answers(t, "model\nlook 5 end 9 kind "+strings.Repeat("x", 32), "error 33 at line 1 column 19\n")
	answers(t, "model\nlook 5 end 9 kind k type T {\n  on k(x) {"+manyLets(33)+"} }", "error 71 at line 2 column 3\n")
	answers(t, "model\nlook 0 budget 4097 fuel 0 fuel 4097\nend 1 end 2", `errors 5
  error 57 at line 1 column 1
  error 57 at line 1 column 8
  error 57 at line 1 column 20
  error 50 at line 1 column 27
  error 50 at line 2 column 7
`)
	many := horizon.Do("model\nlook 5 end 9" + strings.Repeat(" end 9", 20))
	if !strings.HasPrefix(many, "errors 8\n  error 50 at line 1 column 14\n  error 50 at line 1 column 20\n") || strings.Count(many, "\n") != 9 {
		t.Errorf("the answer is %s", many)
	}
}
