package horizon_test

import (
	"fmt"
	"strings"
	"testing"

	"horizon/api"
	"horizon/horizon"
)

// usage is how a command's arguments look, by the table of 19.9: W a word that may be anything, N a number; and what it needs.
type usage struct {
	name  string
	forms []string
	needs string
}

// usages is the table; three dots stand for as many numbers as one likes.
var usages = []usage{
	{"model", []string{""}, ""},
	{"print", []string{""}, "M"},
	{"listing", []string{"W"}, "M"},
	{"spread", []string{"N N"}, "M"},
	{"layout", []string{"N N N N ..."}, "M"},
	{"run", []string{"seq", "fair", "crew", "warp", "picks ..."}, "M"},
	{"trace", []string{""}, "R"},
	{"state", []string{"W", "W N"}, "R"},
	{"tally", []string{""}, "R"},
	{"kinds", []string{""}, "R"},
	{"histogram", []string{"N"}, "R"},
	{"chain", []string{""}, "R"},
	{"balance", []string{""}, "R"},
	{"save", []string{"N"}, "M"},
	{"crash", []string{"N"}, "J"},
	{"spoil", []string{"N N"}, "J"},
	{"scan", []string{""}, "J"},
	{"resume", []string{"N"}, "J"},
}

// isNumber is 19.7's: 1 to 18 decimal digits, with or without one - in front.
func isNumber(word string) bool {
	if word != "" && word[0] == '-' {
		word = word[1:]
	}
	for _, c := range []byte(word) {
		if !strings.Contains("0123456789", string(rune(c))) {
			return false
		}
	}
	return len(word) >= 1 && len(word) <= 18
}

// fits tells whether words are of a form.
func fits(form string, words []string) bool {
	marks := strings.Fields(form)
	for i, word := range words {
		switch {
		case len(marks) == 0:
			return false
		case marks[0] == "...":
			if !isNumber(word) {
				return false
			}
			continue
		case marks[0] == "N" && !isNumber(word):
			return false
		case marks[0] != "N" && marks[0] != "W" && marks[0] != words[i]:
			return false
		}
		marks = marks[1:]
	}
	return len(marks) == 0 || marks[0] == "..."
}

// refusalBy is the error with which 19.7, 1 to 4, refuses a line, or 0; there tells what is there: M, R, J.
func refusalBy(line, there string) int {
	words := strings.Fields(line)
	for _, u := range usages {
		if u.name != words[0] {
			continue
		}
		ok := false
		for _, form := range u.forms {
			ok = ok || fits(form, words[1:])
		}
		switch {
		case !ok:
			return 191
		case u.needs != "" && !strings.Contains(there, "M"):
			return 192
		case (u.needs == "R" || u.needs == "J") && !strings.Contains(there, u.needs):
			return 193
		}
		return 0
	}
	return 190
}

// grounds is scripts behind which some things are there.
var grounds = map[string]string{
	"":    "",
	"M":   model(clock),
	"MR":  model(clock) + "run seq\n",
	"MJ":  model(clock) + "save 1\n",
	"MRJ": model(clock) + "run seq\nsave 1\n",
}

// wantRefusal holds the answer to a line against 19.7, on every ground.
func wantRefusal(t *testing.T, line string) {
	t.Helper()
	for there, script := range grounds {
		got := strings.TrimPrefix(horizon.Do(script+line), horizon.Do(script))
		want := refusalBy(line, there)
		if want > 0 {
			same(t, there+": "+line, got, fmt.Sprintf("error %d\n", want))
		} else if got == "" || got == "error 190\n" || got == "error 192\n" || got == "error 193\n" {
			t.Fatalf("%s: %q is answered by %q", there, line, got)
		}
	}
}

// 19.7: each command, with every number of arguments up to six, words and numbers among them, whatever is there: the first reason counts.
func TestRefusals(t *testing.T) {
	c := chance(197)
	words := []string{"1", "0", "-1", "x", "seq", "fair", "crew", "warp", "picks", "c", "Clock", "123456789012345678", "1234567890123456789", ".", "#"}
	for _, u := range append(usages, usage{name: "bogus"}, usage{name: "Model"}, usage{name: "."}, usage{name: "run#"}, usage{name: "runs"}) {
		wantRefusal(t, u.name)
		for n := 1; n <= 6; n++ {
			for range 25 {
				line := u.name
				for range n {
					line += " " + pick(&c, words...)
				}
				wantRefusal(t, line)
			}
		}
		for _, form := range u.forms {
			full := strings.ReplaceAll(strings.ReplaceAll(form, "N", "1"), "W", "c")
			for _, more := range []string{"", " 1", " 1 1", " x", " 1 x"} {
				wantRefusal(t, u.name+" "+strings.ReplaceAll(full, "...", "")+more)
			}
		}
	}
}

// 19.7: what is a number and what is none.
func TestNumbers(t *testing.T) {
	ran := model(clock) + "run seq\n"
	begin := horizon.Do(ran)
	for _, word := range []string{"1", "01", "000000000000000001"} {
		answers(t, ran+"histogram "+word, begin+"ok 3\n  0 2\n  5 2\n  10 2\n")
	}
	for _, word := range []string{"0", "00", "-0", "-000000000000000000", "000000000000000000"} {
		answers(t, ran+"histogram "+word, begin+"error 170\n")
	}
	for _, word := range []string{"999999999999999999", "100"} {
		answers(t, ran+"histogram "+word, begin+"ok 1\n  0 6\n")
	}
	for _, word := range []string{"-", "--1", "+1", "1-", "1_0", "0x1", "1.0", "1e3", "one", "٣", "1٣", "0000000000000000001", "-0000000000000000001", "9999999999999999999", "99999999999999999999999", "1\x00", "1\v"} {
		answers(t, ran+"histogram "+word, begin+"error 191\n")
		answers(t, ran+"state c "+word, begin+"error 191\n")
		answers(t, ran+"run picks 0 "+word, begin+"error 191\n")
		answers(t, ran+"layout 1 9 9 9 0 "+word, begin+"error 191\n")
		answers(t, "spread 1 "+word, "error 191\n")
	}
	answers(t, ran+"state c -999999999999999999", begin+"error 54\n")
	answers(t, ran+"layout 999999999999999999 1 1 1", begin+"error 100\n")
}

// 19.7: what the table says comes last: the same line is refused for its arguments' numbers, for want of a model, of a result, or by what stands in the table.
func TestOrderOfRefusals(t *testing.T) {
	for _, c := range []struct {
		line string
		code api.Errno
	}{
		{"histogram -1", api.ErrArgs}, {"histogram 0", api.ErrWidth}, {"state d", api.ErrUnknown}, {"state c", api.ErrSize},
		{"crash -1", api.ErrArgs}, {"crash 334", api.ErrArgs}, {"spoil 333 0", api.ErrArgs}, {"spoil 0 256", api.ErrArgs}, {"resume 0", api.ErrEvery}, {"resume 2", api.ErrOther},
		{"save 0", api.ErrEvery}, {"listing c", api.ErrUnknown}, {"spread 0 9", api.ErrWorkers}, {"spread 1 9", api.ErrArg}, {"layout 0 0 0 0", api.ErrWorkers},
	} {
		wantRefusal(t, c.line)
		script := grounds["MRJ"]
		got := strings.TrimPrefix(horizon.Do(script+c.line), horizon.Do(script))
		if !strings.HasPrefix(got, fmt.Sprintf("error %d", int(c.code))) {
			t.Errorf("%q is answered by %q", c.line, got)
		}
	}
}
