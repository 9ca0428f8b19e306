package horizon_test

import (
	"fmt"
	"slices"
	"strings"
	"testing"

	"horizon/api"
	"horizon/horizon"
)

// asked is the names of a script's commands, in their order.
func asked(script string) (names []string) {
	inModel := false
	for _, line := range strings.Split(script, "\n") {
		name, _, _ := strings.Cut(line, " ")
		switch {
		case name == ".":
			inModel = false
		case name != "" && !inModel:
			names = append(names, name)
			inModel = name == "model"
		}
	}
	return names
}

// without is the answers to a script, without those to the commands of these names.
func without(t *testing.T, script string, names ...string) string {
	t.Helper()
	// A further line begins with two spaces, the first line of an answer never does.
	told := strings.Split(strings.ReplaceAll(horizon.Do(script), "\n  ", "\v"), "\n")
	commands := asked(script)
	if len(told) != len(commands)+1 {
		t.Fatalf("%d answers to %d commands of\n%s", len(told)-1, len(commands), script)
	}
	var kept []string
	for i, name := range commands {
		if !slices.Contains(names, name) {
			kept = append(kept, told[i]+"\n")
		}
	}
	return strings.ReplaceAll(strings.Join(kept, ""), "\v", "\n  ")
}

// 19.10: wherever a journal is cut between save and resume, and however often, the answers are the same but for those of crash and scan.
func TestCrashesChangeNothing(t *testing.T) {
	m := maker{chance: 1910}
	for range 60 {
		text := m.text()
		every := pick(&m.chance, 1, 1, 2, 3, 5, 64)
		between := []string{"run warp\n", "balance\n", "trace\n"}[:m.below(4)]
		begin := model(text) + fmt.Sprintln("save", every)
		end := strings.Join(between, "") + fmt.Sprintln("resume", every) + "trace\ntally\nkinds\nchain\nstate p0\nscan\n" + fmt.Sprintln("resume", every)
		want := without(t, begin+end, "crash", "scan")
		whole, _ := loaded(t, text).Save(every)
		for range 6 {
			n := m.below(len(whole) + 1)
			crashes := fmt.Sprintln("crash", n)
			if m.below(2) == 0 {
				crashes += "scan\n" + fmt.Sprintln("crash", m.below(n+1))
			}
			same(t, begin+crashes+end, without(t, begin+crashes+end, "crash", "scan"), want)
		}
	}
}

// 19.10: every place at which the chapter's journal may be cut.
func TestEveryCrash(t *testing.T) {
	for n := range 334 {
		answers(t, model(clock)+fmt.Sprintf("save 1\ncrash %d\nresume 1\nstate c 0\nsave 1", n), clockLoaded+fmt.Sprintf(`ok bytes 333 sum 3330392654
ok bytes %d
ok done events 6 bytes 333
ok n=6
ok bytes 333 sum 3330392654
`, n))
	}
}

// laid is the line that lays a layout.
func laid(l api.Layout) string {
	return fmt.Sprintln("layout", l.Workers, l.Arena, l.Box, l.Undo, strings.Trim(fmt.Sprint(l.Owner), "[]"))
}

// 19.10: where no worker lacks room, the ways to run change places, whatever is laid.
func TestRunsChangePlaces(t *testing.T) {
	m := maker{chance: 19100}
	for range 150 {
		text := m.text()
		p := scenario(t, text)
		look := "trace\ntally\nkinds\nhistogram 4\nchain\nstate p0\n"
		want := ""
		for range 4 {
			lines := strings.Split("run seq,run fair,run crew,run warp", ",")
			m.shuffle(lines)
			script := model(text)
			for _, line := range lines {
				script += pick(&m.chance, "", laid(m.roomy(p)), fmt.Sprintln("spread", 1+m.below(9), 1+m.below(4))) + line + "\n" + look
			}
			got := without(t, script, "layout", "spread")
			if want == "" {
				want = got
			}
			same(t, script, got, want)
		}
		// Four runs, one and the same answer each time.
		_, behind, _ := strings.Cut(want, "\n")
		same(t, text, behind, strings.Repeat(behind[:len(behind)/4], 4))
	}
}

func (m *maker) shuffle(l []string) {
	for i := range l {
		j := m.below(i + 1)
		l[i], l[j] = l[j], l[i]
	}
}
