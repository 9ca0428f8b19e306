package horizon_test

import (
	"bytes"
	"fmt"
	"strconv"
	"strings"

	"horizon/api"
	"horizon/codegen"
	"horizon/grammar"
	"horizon/journal"
	"horizon/kernel"
	"horizon/report"
	"horizon/scope"
	"horizon/stamp"
	"horizon/vm"
	"horizon/worker"
)

// The chapter's words read a second time: a script played line by line with what the layers below answer, and no desk.

type slow struct {
	text   string // the model's
	there  string // M, R, J: what is there
	laid   *api.Layout
	last   api.Result
	bytes  []byte
	out    strings.Builder
	script []string
}

// slowDo is 19.6.
func slowDo(script string) string {
	if len(script) > 65536 {
		return "error 30\n"
	}
	s := &slow{script: strings.Split(script, "\n")}
	for len(s.script) > 0 {
		line := s.line()
		words := slowWords(line)
		if len(words) > 0 && words[0][0] != '#' {
			s.command(words)
		}
	}
	return s.out.String()
}

func (s *slow) line() string {
	line := s.script[0]
	s.script = s.script[1:]
	return line
}

func slowWords(line string) (l []string) {
	word := ""
	for _, c := range []byte(line + " ") {
		if c != ' ' && c != '\t' && c != '\r' {
			word += string([]byte{c})
		} else if word != "" {
			l, word = append(l, word), ""
		}
	}
	return l
}

func (s *slow) say(format string, a ...any) { fmt.Fprintf(&s.out, format+"\n", a...) }

func (s *slow) lines(text string) {
	for _, line := range strings.SplitAfter(text, "\n") {
		if line != "" {
			s.out.WriteString("  " + line)
		}
	}
}

// fails is 19.8, for whatever kind of error; false, if there is none.
func (s *slow) fails(err error) bool {
	one := func(err error) string {
		switch e := err.(type) {
		case *api.PosError:
			return fmt.Sprintf("error %d at line %d column %d", e.Err, e.Line, e.Col)
		case *api.ByteError:
			return fmt.Sprintf("error %d at byte %d", e.Err, e.At)
		}
		return fmt.Sprintf("error %d", err)
	}
	if many, ok := err.(*api.ManyError); ok {
		s.say("errors %d", len(many.List))
		for _, err := range many.List {
			s.say("  %s", one(err))
		}
		return true
	}
	if err == nil || err == error(api.OK) {
		return false
	}
	s.say("%s", one(err))
	return true
}

func (s *slow) has(what string) { s.there = strings.ReplaceAll(s.there, what, "") + what }

func (s *slow) scene() api.Scene {
	tree, _ := grammar.Parse(s.text)
	scene, _ := scope.Check(tree)
	return scene
}

func (s *slow) plan() api.Plan {
	p, _ := codegen.Plan(s.text)
	return p
}

func (s *slow) layout() api.Layout {
	if s.laid != nil {
		return *s.laid
	}
	l, _ := kernel.Spread(s.plan(), 1, 1)
	return l
}

func (s *slow) lay(l api.Layout) bool {
	if s.fails(worker.Valid(s.plan(), l)) {
		return false
	}
	s.laid = &l
	return true
}

// result is how 19.9 tells one.
func result(r api.Result) string {
	return strings.Split(report.Text(r), "\n")[0] + " " + strings.Split(report.Text(r), "\n")[1]
}

func (s *slow) command(words []string) {
	if code := refusalBy(strings.Join(words, " "), s.there); code > 0 {
		s.say("error %d", code)
		return
	}
	var n []int
	for _, word := range words[1:] {
		x, _ := strconv.Atoi(word)
		n = append(n, x)
	}
	switch words[0] {
	case "model", "print", "listing", "spread", "layout", "run":
		s.onModel(words, n)
	case "save", "crash", "spoil", "scan", "resume":
		s.onJournal(words[0], n)
	default:
		s.onResult(words, n)
	}
}

func (s *slow) load() {
	text := ""
	for len(s.script) > 0 {
		line := s.line()
		if words := slowWords(line); len(words) == 1 && words[0] == "." {
			break
		}
		if len(s.script) > 0 || line != "" {
			text += line + "\n"
		}
	}
	if _, err := codegen.Plan(text); s.fails(err) {
		return
	}
	s.text, s.there, s.laid = text, "M", nil
	s.say("ok parts %d kinds %d types %d", len(s.scene().Parts), len(s.scene().Kinds), len(s.scene().Types))
}

func (s *slow) onModel(words []string, n []int) {
	switch words[0] {
	case "model":
		s.load()
	case "print":
		tree, _ := grammar.Parse(s.text)
		if text, code := grammar.Print(tree); !s.fails(code) {
			s.say("ok")
			s.lines(text)
		}
	case "listing":
		for i, typ := range s.scene().Types {
			if typ.Name == words[1] {
				s.say("ok")
				s.lines(vm.List(s.plan().Programs[i]))
				return
			}
		}
		s.say("error 51")
	case "spread":
		if l, code := kernel.Spread(s.plan(), n[0], n[1]); !s.fails(code) && s.lay(l) {
			s.say("%s", strings.TrimRight(fmt.Sprintln("ok owner", strings.Trim(fmt.Sprint(l.Owner), "[]")), " \n"))
		}
	case "layout":
		if s.lay(api.Layout{Workers: n[0], Owner: n[4:], Arena: n[1], Box: n[2], Undo: n[3]}) {
			s.say("ok")
		}
	case "run":
		modes := map[string]int{"seq": api.ModeSeq, "picks": api.ModeKernel, "fair": api.ModeFair, "crew": api.ModeCrew, "warp": api.ModeWarp}
		s.last, _ = inMode(s.plan(), s.layout(), modes[words[1]], n[1:])
		s.has("R")
		s.say("ok %s", result(s.last))
	}
}

func (s *slow) onJournal(name string, n []int) {
	switch name {
	case "save":
		b, r, err := journal.Record(s.plan(), n[0])
		if r.Kind == 0 {
			s.fails(err)
			return
		}
		s.bytes = b
		s.has("J")
		s.say("ok bytes %d sum %d", len(b), stamp.Sum(b))
	case "crash":
		if n[0] < 0 || n[0] > len(s.bytes) {
			s.say("error 191")
			return
		}
		s.bytes = bytes.Clone(s.bytes[:n[0]])
		s.say("ok bytes %d", n[0])
	case "spoil":
		if n[0] < 0 || n[0] >= len(s.bytes) || n[1] < 0 || n[1] > 255 {
			s.say("error 191")
			return
		}
		s.bytes[n[0]] = byte((int(s.bytes[n[0]]) + n[1]) % 256)
		s.say("ok")
	case "scan":
		records, size, err := journal.Scan(s.bytes)
		if err == nil {
			s.say("ok records %d bytes %d whole", records, size)
			return
		}
		s.say("ok records %d bytes %d error %d", records, size, err.(*api.ByteError).Err)
	case "resume":
		b, r, err := journal.Resume(s.plan(), n[0], s.bytes)
		if r.Kind == 0 {
			s.fails(err)
			return
		}
		s.bytes, s.last = b, r
		s.has("R")
		s.say("ok %s bytes %d", result(r), len(b))
	}
}

func (s *slow) onResult(words []string, n []int) {
	switch words[0] {
	case "trace":
		s.say("ok %d", len(s.last.Trace))
		for _, e := range s.last.Trace {
			s.say("  %s", stamp.Text(e))
		}
	case "state":
		s.state(words[1], append(n[1:], -1)[0])
	case "tally":
		l := report.Tallies(s.last)
		s.say("ok %d", len(l))
		for _, x := range l {
			name, code := scope.Title(s.scene(), x.Part)
			if code != api.OK {
				name = fmt.Sprint(x.Part)
			}
			s.say("  %s events %d sent %d first %d last %d", name, x.Events, x.Sent, x.First, x.Last)
		}
	case "kinds":
		l := report.Kinds(s.last)
		s.say("ok %d", len(l))
		for _, x := range l {
			name := fmt.Sprint(x.Kind)
			for i, kind := range s.scene().Kinds {
				if i == x.Kind {
					name = kind
				}
			}
			s.say("  %s %d", name, x.Events)
		}
	default:
		s.reckoned(words[0], n)
	}
}

func (s *slow) reckoned(name string, n []int) {
	switch name {
	case "histogram":
		if n[0] < 0 {
			s.say("error 191")
		} else if l, code := report.Histogram(s.last, uint64(n[0])); !s.fails(code) {
			s.say("ok %d", len(l))
			for _, x := range l {
				s.say("  %d %d", x.From, x.Events)
			}
		}
	case "chain":
		if l, code := report.Chain(s.plan(), s.last); !s.fails(code) {
			s.say("ok %d", len(l))
			for _, place := range l {
				s.say("  %d %s", place, stamp.Text(s.last.Trace[place]))
			}
		}
	case "balance":
		if l, code := report.Balance(s.layout(), s.last); !s.fails(code) {
			s.say("ok %s", strings.Trim(fmt.Sprint(l), "[]"))
		}
	}
}

func (s *slow) state(name string, at int) {
	part, code := scope.Part(s.scene(), name, at)
	if s.fails(code) {
		return
	}
	line := "ok"
	for _, v := range s.scene().Types[s.scene().Parts[part].Program].Vars {
		line += fmt.Sprintf(" %s=%d", v.Name, s.last.States[part].Words[v.At])
		for i := 1; i < v.Size; i++ {
			line += fmt.Sprintf(",%d", s.last.States[part].Words[v.At+i])
		}
	}
	s.say("%s", line)
}
