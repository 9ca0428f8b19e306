package horizon

import (
	"math"
	"strconv"
	"strings"

	"horizon/api"
)

// command is what a name in a script stands for.
type command struct {
	names int             // how many names it takes
	least int             // how many numbers behind them at least
	most  int             // and at most
	suits func(args) bool // what else its arguments must be; nil: nothing
	needs need
	do    func(*player, args) (answer, error)
}

// args is what stands behind a command's name.
type args struct {
	names   []string
	numbers []int
}

// need is what must be there for a command.
type need int

const (
	nothing  need = iota
	aModel        // a model
	aResult       // a model and a last result
	aJournal      // a model and a journal
)

// anyNumber stands for as many numbers as one likes.
const anyNumber = math.MaxInt

// commands is all of them by their names.
func commands() map[string]command {
	return map[string]command{
		"model":     {do: (*player).model},
		"print":     {needs: aModel, do: (*player).print},
		"listing":   {names: 1, needs: aModel, do: (*player).listing},
		"spread":    {least: 2, most: 2, needs: aModel, do: (*player).spread},
		"layout":    {least: 4, most: anyNumber, needs: aModel, do: (*player).layout},
		"run":       {names: 1, most: anyNumber, suits: isRun, needs: aModel, do: (*player).run},
		"trace":     {needs: aResult, do: (*player).trace},
		"state":     {names: 1, most: 1, needs: aResult, do: (*player).state},
		"tally":     {needs: aResult, do: (*player).tally},
		"kinds":     {needs: aResult, do: (*player).kinds},
		"histogram": {least: 1, most: 1, needs: aResult, do: (*player).histogram},
		"chain":     {needs: aResult, do: (*player).chain},
		"balance":   {needs: aResult, do: (*player).balance},
		"save":      {least: 1, most: 1, needs: aModel, do: (*player).save},
		"crash":     {least: 1, most: 1, needs: aJournal, do: (*player).crash},
		"spoil":     {least: 2, most: 2, needs: aJournal, do: (*player).spoil},
		"scan":      {needs: aJournal, do: (*player).scan},
		"resume":    {least: 1, most: 1, needs: aJournal, do: (*player).resume},
	}
}

// read takes words as the command's arguments, if they can be that.
func (c command) read(words []string) (args, bool) {
	count := len(words) - c.names
	if count < c.least || count > c.most {
		return args{}, false
	}
	a := args{names: words[:c.names]}
	for _, word := range words[c.names:] {
		n, ok := numberOf(word)
		if !ok {
			return args{}, false
		}
		a.numbers = append(a.numbers, n)
	}
	return a, c.suits == nil || c.suits(a)
}

// maxDigits is so few that an int holds every number of so many digits.
const maxDigits = 18

// numberOf is the number that a word is.
func numberOf(word string) (int, bool) {
	digits := strings.TrimPrefix(word, "-")
	if digits == "" || len(digits) > maxDigits || strings.Trim(digits, "0123456789") != "" {
		return 0, false
	}
	n, err := strconv.Atoi(word)
	return n, err == nil
}

// modeOf is the mode that a word of the command run means; 0, if it means none.
func modeOf(word string) int {
	switch word {
	case "seq":
		return api.ModeSeq
	case "picks":
		return api.ModeKernel
	case "fair":
		return api.ModeFair
	case "crew":
		return api.ModeCrew
	case "warp":
		return api.ModeWarp
	}
	return 0
}

// isRun tells whether a mode is named; numbers are picks, which one mode alone reads.
func isRun(a args) bool {
	mode := modeOf(a.names[0])
	return mode == api.ModeKernel || mode != 0 && len(a.numbers) == 0
}
