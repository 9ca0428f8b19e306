package horizon

import (
	"strings"

	"horizon/api"
)

// player plays a script: it has the script's desk, its journal, and the lines that are not played yet.
type player struct {
	desk     *Desk
	journal  []byte
	written  bool // whether there is a journal: one may be cut down to no byte
	lines    []string
	commands map[string]command
}

func newPlayer(script string) *player {
	return &player{desk: New(), lines: linesOf(script), commands: commands()}
}

// linesOf is the lines of a text; what is behind its last newline is one, if it is not empty.
func linesOf(text string) []string {
	lines := strings.Split(text, "\n")
	if last := len(lines) - 1; lines[last] == "" {
		return lines[:last]
	}
	return lines
}

// wordsOf cuts a line at its blanks, and at nothing else that might look like one.
func wordsOf(line string) []string {
	return strings.FieldsFunc(line, func(r rune) bool { return r == ' ' || r == '\t' || r == '\r' })
}

// play answers all lines.
func (p *player) play() string {
	var told strings.Builder
	for len(p.lines) > 0 {
		words := wordsOf(p.nextLine())
		if len(words) == 0 || strings.HasPrefix(words[0], "#") {
			continue
		}
		a, err := p.command(words[0], words[1:])
		if err != nil {
			a = refusal(err)
		}
		told.WriteString(a.text())
	}
	return told.String()
}

func (p *player) nextLine() string {
	line := p.lines[0]
	p.lines = p.lines[1:]
	return line
}

// nextText takes the lines of a scenario: up to a point alone, or to the script's end.
func (p *player) nextText() string {
	var text strings.Builder
	for len(p.lines) > 0 {
		line := p.nextLine()
		if words := wordsOf(line); len(words) == 1 && words[0] == "." {
			break
		}
		text.WriteString(line)
		text.WriteString("\n")
	}
	return text.String()
}

// command does what a line asks for, or tells why not.
func (p *player) command(name string, words []string) (answer, error) {
	c, known := p.commands[name]
	if !known {
		return nil, api.ErrCommand
	}
	args, ok := c.read(words)
	if !ok {
		return nil, api.ErrArgs
	}
	if code := p.lacks(c.needs); code != api.OK {
		return nil, code
	}
	return c.do(p, args)
}

// lacks tells what a command needs and the script has not.
func (p *player) lacks(n need) api.Errno {
	switch {
	case n == nothing:
		return api.OK
	case p.desk.model == nil:
		return api.ErrNoModel
	case n == aResult && p.desk.last == nil, n == aJournal && !p.written:
		return api.ErrNoRun
	}
	return api.OK
}
