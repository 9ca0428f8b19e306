package vm

import (
	"strconv"
	"strings"

	"horizon/api"
)

// Assemble reads a listing, or answers a *api.PosError.
func Assemble(s string) (api.Program, error) {
	if len(s) > api.MaxText {
		return api.Program{}, word{line: 1, col: 1}.wrong(api.ErrLong)
	}
	a := assembler{heads: map[string]int{}, labels: map[string]int{}}
	for i, line := range strings.Split(s, "\n") {
		if err := a.read(wordsOf(line, i+1)); err != nil {
			return api.Program{}, err
		}
	}
	if err := a.putIn(); err != nil {
		return api.Program{}, err
	}
	return a.program, nil
}

// word of a listing, and where it stands.
type word struct {
	text      string
	line, col int
}

func (w word) wrong(code api.Errno) error {
	return &api.PosError{Line: w.line, Col: w.col, Err: code}
}

func wordsOf(line string, number int) []word {
	line, _, _ = strings.Cut(line, "#")
	var list []word
	for at := 0; at < len(line); {
		size := strings.IndexAny(line[at:], " \t\r")
		if size < 0 {
			size = len(line) - at
		}
		if size > 0 {
			list = append(list, word{line[at : at+size], number, at + 1})
		}
		at += size + 1
	}
	return list
}

// assembler makes a program of a listing line by line. Labels may be named ahead of where they stand: so their places are put in behind the last line.
type assembler struct {
	program api.Program
	heads   map[string]int // the lines of those heads that stand but once
	labels  map[string]int // the places that they name
	uses    []use
}

// use of a label's name: in Entry or in Code, and at which place there.
type use struct {
	word
	inEntry bool
	at      int
}

func (a *assembler) read(line []word) error {
	if len(line) > 0 && strings.HasSuffix(line[0].text, ":") {
		if err := a.label(line[0]); err != nil {
			return err
		}
		line = line[1:]
	}
	if len(line) == 0 {
		return nil
	}
	head, args := line[0], line[1:]
	switch head.text {
	case headWords:
		return a.size(head, args, api.MaxWords, &a.program.Words)
	case headLocals:
		return a.size(head, args, api.MaxLocals, &a.program.Locals)
	case headEntry:
		return a.entries(head, args)
	}
	return a.instr(head, args)
}

func (a *assembler) label(w word) error {
	name := strings.TrimSuffix(w.text, ":")
	if !isName(name) {
		return w.wrong(api.ErrName)
	}
	if _, ok := a.labels[name]; ok {
		return w.wrong(api.ErrTwice)
	}
	a.labels[name] = len(a.program.Code)
	return nil
}

func (a *assembler) once(head word) error {
	if a.heads[head.text] != 0 {
		return head.wrong(api.ErrTwice)
	}
	a.heads[head.text] = head.line
	return nil
}

func (a *assembler) size(head word, args []word, most int64, to *int) error {
	if err := a.once(head); err != nil {
		return err
	}
	if len(args) == 0 {
		return head.wrong(api.ErrWant)
	}
	n, ok := number(args[0].text)
	switch {
	case !ok:
		return args[0].wrong(api.ErrNumber)
	case n < 0 || n > most:
		return args[0].wrong(api.ErrArg)
	case len(args) > 1:
		return args[1].wrong(api.ErrForm)
	}
	*to = int(n)
	return nil
}

func (a *assembler) entries(head word, args []word) error {
	if err := a.once(head); err != nil {
		return err
	}
	for i, arg := range args {
		if i == api.MaxKinds {
			return arg.wrong(api.ErrCount)
		}
		if err := a.entry(arg); err != nil {
			return err
		}
	}
	return nil
}

func (a *assembler) entry(arg word) error {
	at := passedOver
	switch n, ok := number(arg.text); {
	case arg.text == noEntry:
	case isName(arg.text):
		a.uses = append(a.uses, use{arg, true, len(a.program.Entry)})
	case !ok:
		return arg.wrong(api.ErrNumber)
	case n < 0 || n >= api.MaxCode:
		return arg.wrong(api.ErrArg)
	default:
		at = int(n)
	}
	a.program.Entry = append(a.program.Entry, at)
	return nil
}

func (a *assembler) instr(head word, args []word) error {
	op, ok := opNamed(head.text)
	if !ok {
		return head.wrong(api.ErrOp)
	}
	if len(a.program.Code) == api.MaxCode {
		return head.wrong(api.ErrBig)
	}
	var numbers [2]int64
	for i, arg := range args {
		if i == len(numbers) {
			return arg.wrong(api.ErrForm)
		}
		n, ok := number(arg.text)
		switch {
		case ok:
			numbers[i] = n
		case i == 0 && jumps(op) && isName(arg.text):
			a.uses = append(a.uses, use{arg, false, len(a.program.Code)})
		default:
			return arg.wrong(api.ErrNumber)
		}
	}
	if len(args) < wants(op) {
		return head.wrong(api.ErrWant)
	}
	a.program.Code = append(a.program.Code, api.Instr{Op: op, A: numbers[0], B: numbers[1]})
	return nil
}

func (a *assembler) putIn() error {
	for _, u := range a.uses {
		place, ok := a.labels[u.text]
		switch {
		case !ok:
			return u.wrong(api.ErrUnknown)
		case !u.inEntry:
			a.program.Code[u.at].A = int64(place)
		case place == api.MaxCode:
			return u.wrong(api.ErrArg)
		default:
			a.program.Entry[u.at] = place
		}
	}
	return nil
}

func opNamed(text string) (int, bool) {
	for op, name := range names {
		if name == text {
			return op, true
		}
	}
	return 0, false
}

// number refuses the one sign that a listing has no use for, and ParseInt has.
func number(text string) (int64, bool) {
	n, err := strconv.ParseInt(text, 10, 64)
	return n, err == nil && text[0] != '+'
}

func isName(text string) bool {
	if text == "" || len(text) > api.MaxName || !isLetter(text[0]) {
		return false
	}
	for i := range len(text) {
		if c := text[i]; !isLetter(c) && !isDigit(c) && c != '_' {
			return false
		}
	}
	return true
}

func isLetter(c byte) bool { return 'a' <= c && c <= 'z' || 'A' <= c && c <= 'Z' }

func isDigit(c byte) bool { return '0' <= c && c <= '9' }
