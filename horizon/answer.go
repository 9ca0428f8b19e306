package horizon

import (
	"errors"
	"strconv"
	"strings"

	"horizon/api"
	"horizon/report"
)

// answer is the lines of an answer: the first one, and the further ones without the blanks that they begin with.
type answer []string

// text is the lines as they are told.
func (a answer) text() string {
	var b strings.Builder
	for i, line := range a {
		if i > 0 {
			b.WriteString("  ")
		}
		b.WriteString(line)
		b.WriteString("\n")
	}
	return b.String()
}

// counted is an answer of further lines that tells ahead how many they are.
func counted(lines []string) answer {
	return append(answer{"ok " + strconv.Itoa(len(lines))}, lines...)
}

// numbered is a line: a beginning, and numbers, each behind a blank.
func numbered(begin string, numbers []int) string {
	for _, n := range numbers {
		begin += " " + strconv.Itoa(n)
	}
	return begin
}

// outcome is how a run ended and how many events it has.
func outcome(r api.Result) string {
	events := len(r.Trace)
	// The first line of the text hangs neither on states nor on the trace, which may be long.
	r.States, r.Trace = nil, nil
	first, _, _ := strings.Cut(report.Text(r), "\n")
	return first + " events " + strconv.Itoa(events)
}

// refusal is what is answered to a command that failed.
func refusal(err error) answer {
	var many *api.ManyError
	if !errors.As(err, &many) {
		return answer{refusalLine(err)}
	}
	a := answer{"errors " + strconv.Itoa(len(many.List))}
	for _, one := range many.List {
		a = append(a, refusalLine(one))
	}
	return a
}

func refusalLine(err error) string {
	line := "error " + codeOf(err)
	switch at := err.(type) {
	case *api.PosError:
		line += " at line " + strconv.Itoa(at.Line) + " column " + strconv.Itoa(at.Col)
	case *api.ByteError:
		line += " at byte " + strconv.Itoa(at.At)
	}
	return line
}

// codeOf is the number that an error is around.
func codeOf(err error) string {
	var code api.Errno
	errors.As(err, &code)
	return strconv.Itoa(int(code))
}
