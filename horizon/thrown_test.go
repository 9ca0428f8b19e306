package horizon_test

import (
	"fmt"
	"strings"
	"testing"

	"horizon/api"
	"horizon/horizon"
)

// line is a thrown command; most of them can be done.
func (m *maker) line(p api.Plan) string {
	switch m.below(24) {
	case 0:
		return "print"
	case 1:
		return "listing " + pick(&m.chance, "A", "B", "C")
	case 2:
		return fmt.Sprint("spread ", m.below(9), " ", m.below(6))
	case 3:
		l := m.layout(p)
		return fmt.Sprint("layout ", l.Workers, " ", l.Arena, " ", l.Box, " ", l.Undo, " ", strings.Trim(fmt.Sprint(l.Owner), "[]"))
	case 4, 5, 6, 7:
		return "run " + pick(&m.chance, "seq", "fair", "crew", "warp")
	case 8:
		return "run picks " + strings.Trim(fmt.Sprint(m.picks(3)), "[]")
	case 9, 10:
		return fmt.Sprint("state p", m.below(m.parts))
	case 11:
		return fmt.Sprint("state q ", m.below(3)-1)
	case 12:
		return fmt.Sprint("histogram ", m.below(12)-1)
	case 13, 14:
		return fmt.Sprint("save ", pick(&m.chance, 1, 1, 2, 3, m.below(70)))
	case 15, 16:
		return fmt.Sprint("crash ", pick(&m.chance, m.below(100), m.below(700), m.below(3000)))
	case 17:
		return fmt.Sprint("spoil ", m.below(500), " ", m.below(260))
	case 18, 19:
		return fmt.Sprint("resume ", pick(&m.chance, 1, 1, 2, 3, m.below(70)))
	}
	return pick(&m.chance, "trace", "tally", "kinds", "chain", "balance", "scan")
}

// garbled spoils a line a little, at times.
func (m *maker) garbled(line string) string {
	switch m.below(30) {
	case 0:
		return line + pick(&m.chance, " 1", " x", " -", "\r", " #", " .")
	case 1:
		return pick(&m.chance, "#", " ", "\t", ".", "x", "") + line
	case 2:
		if i := m.below(len(line) + 1); i < len(line) {
			return line[:i] + pick(&m.chance, "", " ", "0", "\xff", "-") + line[i+1:]
		}
	case 3:
		return pick(&m.chance, "", "model", "model\n.", "model x", ".", "# x", "run", "bogus")
	}
	return line
}

// script is a thrown one: models, mostly right, and commands on them.
func (m *maker) script(t *testing.T) string {
	t.Helper()
	var b strings.Builder
	if m.below(10) == 0 {
		fmt.Fprintln(&b, m.garbled("scan"))
	}
	for range 1 + m.below(2) {
		text := m.text()
		p := scenario(t, text)
		if m.below(8) == 0 {
			i := m.below(len(text))
			text = text[:i] + pick(&m.chance, "", "?", "}", "k9", "1") + text[i+1:]
		}
		b.WriteString(pick(&m.chance, "model\n", "model\n", " model \r\n", "model\n\n") + text + pick(&m.chance, ".\n", ".\n", " .\r\n", "\t.\n"))
		for range m.below(30) {
			fmt.Fprintln(&b, m.garbled(m.line(p)))
		}
	}
	return strings.TrimRight(b.String(), pick(&m.chance, "", "\n"))
}

// 19.6 to 19.9: thrown scripts are answered as the words read slowly say.
func TestThrownScripts(t *testing.T) {
	m := maker{chance: 199}
	counts := map[string]int{}
	for range 700 {
		script := m.script(t)
		got := horizon.Do(script)
		same(t, script, got, slowDo(script))
		for _, line := range strings.Split(got, "\n") {
			if words := strings.Fields(line); len(words) > 1 {
				counts[words[0]+" "+words[1]]++
			}
		}
	}
	for _, answer := range []string{"ok done", "ok cut", "ok fault", "ok resource", "ok unfinished", "ok bytes", "ok records", "ok owner", "error 190", "error 191", "error 192", "error 193", "error 161", "error 164", "error 51", "errors 1", "ok parts"} {
		if counts[answer] < 5 {
			t.Errorf("%q stands in %d answers", answer, counts[answer])
		}
	}
}

// 0.1, 19.6: whatever bytes a script is, it has an answer, and that is the one of the words.
func TestThrownBytes(t *testing.T) {
	c := chance(1906)
	pieces := []string{"model", "\n", "\n", " ", " ", ".", "look 5 end 9", "run", "seq", "crew", "trace", "save", "1", "-1", "resume", "scan", "crash", "0", "spoil", "#", "\t", "\r", "\xff", "\x00", "é", "state", "x", "layout", "spread", "print", "listing", "tally", "kinds", "balance", "chain", "histogram", "run seq\n", "save 1\n", "model\nlook 5 end 9\n.\n", "18446744073709551615"}
	for range 20000 {
		var b strings.Builder
		for range c.below(40) {
			b.WriteString(pick(&c, pieces...))
		}
		same(t, fmt.Sprintf("%q", b.String()), horizon.Do(b.String()), slowDo(b.String()))
	}
}
