package horizon_test

import (
	"strings"
	"testing"

	"horizon/api"
	"horizon/horizon"
)

// 19.6: a script of MaxText bytes is played, one of a byte more is answered by one line, whatever stands in it.
func TestScriptLength(t *testing.T) {
	for _, begin := range []string{"", "bogus\n", model(idle), "#"} {
		want := horizon.Do(begin)
		answers(t, begin+strings.Repeat(" ", api.MaxText-len(begin)), want)
		answers(t, begin+strings.Repeat("\n", api.MaxText-len(begin)), want)
		answers(t, begin+strings.Repeat(" ", api.MaxText+1-len(begin)), "error 30\n")
		answers(t, begin+strings.Repeat("\n", api.MaxText+1-len(begin)), "error 30\n")
	}
}

// 19.6: words are cut at spaces, tabs and carriage returns, however many, at both ends too, and at nothing else.
func TestWords(t *testing.T) {
	for _, line := range []string{"run seq", " run seq", "run seq ", "\trun\tseq\t", "\r\r run \t\r seq\r", "run seq\r"} {
		answers(t, model(idle)+line, idleLoaded+"ok done events 0\n")
		answers(t, model(idle)+line+"\n", idleLoaded+"ok done events 0\n")
	}
	for _, line := range []string{"run\vseq", "run\fseq", "run\u00a0seq", "run\u0085seq", "run\x00seq", "run\xffseq", "runseq", "run,seq", "\vrun seq", "RUN seq", "\xa0run seq"} {
		answers(t, model(idle)+line, idleLoaded+"error 190\n")
	}
	for _, line := range []string{"run seq\v", "run \u2003seq", "run seq\x00", "run Seq"} {
		answers(t, model(idle)+line, idleLoaded+"error 191\n")
	}
}

// 19.6: lines without words, and those whose first word begins with #, are passed over; a # further on is an argument like any other.
func TestPassedOver(t *testing.T) {
	for _, line := range []string{"", " ", "\t\r ", "#", "# run seq", "#run seq", "\t # x", "##", "#\xff"} {
		answers(t, line, "")
		answers(t, line+"\nbogus\n"+line+"\n"+line, "error 190\n")
	}
	answers(t, "bogus # x", "error 190\n")
	answers(t, model(idle)+"run seq # x", idleLoaded+"error 191\n")
	answers(t, model(idle)+"print#", idleLoaded+"error 190\n")
}

// 19.6: each command has its answer, in their order; the last line need not end.
func TestOrderOfAnswers(t *testing.T) {
	script := "run seq\nbogus\n" + model(clock) + "trace\nrun seq\nstate c 0\n\nbalance"
	answers(t, script, "error 192\nerror 190\n"+clockLoaded+"error 193\nok done events 6\nok n=6\nok 6\n")
	answers(t, script+"\n", "error 192\nerror 190\n"+clockLoaded+"error 193\nok done events 6\nok n=6\nok 6\n")
}

// 19.9: the text of a model ends at a line whose only word is a point, or at the script's end; other points, commands and comments are text.
func TestModelLines(t *testing.T) {
	answers(t, "model\nlook 5 end 9", idleLoaded)
	answers(t, "model\nlook 5 end 9\n", idleLoaded)
	answers(t, "model\nlook 5\nend 9\n.", idleLoaded)
	answers(t, "model\nlook 5 end 9\n \t.\r\nrun seq", idleLoaded+"ok done events 0\n")
	answers(t, "model\n\n\n# run seq\nlook 5 # look 6\n\nend 9\n.\nrun seq", idleLoaded+"ok done events 0\n")
	answers(t, "model\nlook 5 end 9\n# .\n.\nrun seq", idleLoaded+"ok done events 0\n")
	answers(t, "model\nlook 5\n. end 9\n.\n", "error 31 at line 2 column 1\n")
	answers(t, "model\nlook 5 end 9\n..\n.\n", "error 31 at line 2 column 1\n")
	answers(t, "model\nlook 5 end 9\nrun seq\n.\n", "error 40 at line 2 column 1\n")
	answers(t, "model\n.\n.\n", "errors 1\n  error 56 at line 1 column 1\nerror 190\n")
	answers(t, "model\nmodel\n.\nbogus", "error 40 at line 1 column 1\nerror 190\n")
}

// 19.9: each line of a model has a newline behind it, and stands as it is, blanks too: so places in the text are those of the lines.
func TestModelText(t *testing.T) {
	answers(t, "model\n\t look 5\r\n  end x\r\n.", "error 40 at line 2 column 7\n")
	answers(t, "model\nlook 5 # end 9\nend 9\n.", idleLoaded)
	answers(t, "model\nlook 5\n\n\nend 9 const A = (1 +\n\n.\n", "error 41 at line 4 column 21\n")
	answers(t, "model\nlook 5 end 9 const A = \xff", "error 31 at line 1 column 24\n")
}

// 19.7, 19.9: a model with an argument is refused and takes no lines.
func TestModelWithArgument(t *testing.T) {
	answers(t, "model x\nlook 5 end 9\n.\n", "error 191\nerror 190\nerror 190\n")
	answers(t, "model .\nrun seq", "error 191\nerror 192\n")
	answers(t, model(clock)+"model 1\nrun seq\n", clockLoaded+"error 191\nok done events 6\n")
}

// 19.6: a model that is refused takes its lines all the same, and changes nothing else.
func TestModelRefused(t *testing.T) {
	answers(t, model(clock)+"run seq\nsave 1\nspread 2 1\nmodel\nrun crew\nbogus\n.\ntrace\nbalance\nscan\nprint", clockLoaded+`ok done events 6
ok bytes 333 sum 3330392654
ok owner 0 1
error 40 at line 1 column 1
ok 6
  0.0.0>0:0=1
  0.1.0>1:0=1
  5.0.1>0:0=2
  5.1.1>1:0=2
  10.0.2>0:0=3
  10.1.2>1:0=3
ok 3 3
ok records 9 bytes 333 whole
ok
  look 5
  end 14
  seed 7
  kind tick
  type Clock {
    var n
    on tick(x) {
      send tick(x + 1) to me after 5
      n = n + x
    }
  }
  place c[2] : Clock
  start tick(1) to c at 0
`)
}

// 19.9: behind a new model there is no layout, no last result and no journal.
func TestModelForgets(t *testing.T) {
	answers(t, model(clock)+"spread 2 1\nrun seq\nsave 1\n"+model(clock)+"trace\nscan\nrun seq\nbalance\nscan\nresume 1\ncrash 0", clockLoaded+"ok owner 0 1\nok done events 6\nok bytes 333 sum 3330392654\n"+clockLoaded+`error 193
error 193
ok done events 6
ok 6
error 193
error 193
error 193
`)
}

// 19.6: nothing that was answered by an error has changed anything.
func TestErrorsChangeNothing(t *testing.T) {
	look := "trace\nbalance\nscan\nstate c 0\nkinds\nresume 1\ntally\n"
	begin := model(clock) + "layout 3 9 9 9 2 0\nrun picks 0 1 2\nrun fair\nsave 1\n"
	told := horizon.Do(begin)
	behind := strings.TrimPrefix(horizon.Do(begin+look), told)
	for _, line := range []string{"bogus", "model 1", "print 1", "spread 0 1", "spread 1 5", "spread 65 1", "spread 2", "layout 1 9 9 9 0", "layout 1 9 9 9 0 1", "layout 1 9 9",
		"layout 1 0 9 9 0 0", "layout 1 9 0 9 0 0", "layout 1 9 9 0 0 0", "run", "run x", "run seq 0", "run fair 1", "run crew x", "run warp -1", "run picks x", "run picks 0 1 x", "save 0",
		"save 65", "save", "crash 334", "crash -1", "spoil 333 1", "spoil -1 1", "spoil 0 256", "spoil 0 -1", "resume 0", "resume 65", "resume 2", "histogram 0", "histogram -5", "state c", "state c 2", "listing Z"} {
		got := strings.TrimPrefix(horizon.Do(begin+line+"\n"+look), told)
		first, rest, _ := strings.Cut(got, "\n")
		if !strings.HasPrefix(first, "error ") {
			t.Fatalf("%q is answered by %q", line, first)
		}
		same(t, line, rest, behind)
	}
}
