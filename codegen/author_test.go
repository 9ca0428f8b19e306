package codegen_test

import (
	"fmt"
	"slices"
	"strings"
)

// author throws scenarios that layer 5 takes. Names are few, so that they hide one another.
type author struct {
	*chance
	types  []string
	kinds  []string
	consts []string
	places map[string]int // their sizes
	vars   map[string]int
	param  string
	blocks [][]string
	loops  int
	left   int // statements that may still be written
}

var (
	localNames = []string{"a", "b", "x", "v", "r", "A", "o", "p", "k", "T"}
	operations = []string{"==", "!=", "<", "<=", ">", ">=", "|", "^", "&", "<<", ">>", "+", "-", "*", "/", "%", "&&", "||", "&&", "||"}
)

// scenario is a text, the same for the same chance.
func (c *chance) scenario() string {
	a := &author{chance: c, kinds: []string{"k", "m", "n"}[:1+c.below(3)], consts: []string{"A", "B"}[:c.below(3)], types: []string{"T", "U", "V"}[:1+c.below(3)]}
	a.places = map[string]int{"o": 0, "p": 1 + c.below(3)}
	items := []string{"look 2", "end 99", "kind " + strings.Join(a.kinds, ", ")}
	for _, name := range a.consts {
		items = append(items, fmt.Sprintf("const %s = %s", name, a.literal()))
	}
	items = append(items, "place o : T", fmt.Sprintf("place p[%d] : %s", a.places["p"], pick(c, a.types)))
	for _, name := range a.types {
		items = append(items, a.typeText(name))
	}
	// Nothing hangs on where an item stands, but for the consts' and the handlers' order.
	for range items {
		i := c.below(len(items) - 1)
		if !strings.HasPrefix(items[i], "type") || !strings.HasPrefix(items[i+1], "type") {
			items[i], items[i+1] = items[i+1], items[i]
		}
	}
	return strings.Join(items, "\n")
}

func (a *author) typeText(name string) string {
	a.vars = map[string]int{}
	var members []string
	for _, v := range []string{"v", "r", "s", "A", "o", "w"}[:a.below(7)] {
		a.vars[v] = 0
		member := "var " + v
		if a.below(2) == 0 {
			a.vars[v] = 1 + a.below(3)
			member = fmt.Sprintf("var %s[%d]", v, a.vars[v])
		}
		members = append(members, member)
	}
	kinds := slices.Clone(a.kinds)
	for i := range kinds {
		j := a.below(i + 1)
		kinds[i], kinds[j] = kinds[j], kinds[i]
	}
	for _, kind := range kinds[:len(kinds)-a.below(2)] {
		a.param = pick(a.chance, []string{"x", "x", "v", "r", "A", "p", "k", "d"})
		a.left = 1 + a.below(14)
		a.loops = 0
		on := fmt.Sprintf("on %s(%s) %s", kind, a.param, a.block(0))
		members = slices.Insert(members, a.below(len(members)+1), on)
	}
	return fmt.Sprintf("type %s {\n%s\n}", name, strings.Join(members, "\n"))
}

func (a *author) block(deep int) string {
	a.blocks = append(a.blocks, nil)
	var list []string
	for a.left > 0 && (deep == 0 || a.below(4) > 0) {
		a.left--
		list = append(list, a.statement(deep))
	}
	a.blocks = a.blocks[:len(a.blocks)-1]
	return "{ " + strings.Join(list, " ") + " }"
}

// sort of a name, as 5.9 finds it.
func (a *author) sort(name string) string {
	size, isVar := a.vars[name]
	_, isPlace := a.places[name]
	if !isVar {
		size = a.places[name]
	}
	switch {
	case slices.Contains(slices.Concat(a.blocks...), name):
		return "local"
	case name == a.param:
		return "fixed"
	case isVar && size > 0:
		return "words"
	case isVar:
		return "word"
	case slices.Contains(a.consts, name):
		return "fixed"
	case isPlace && size > 0:
		return "parts"
	case isPlace:
		return "fixed"
	}
	return "none"
}

// name is one of these sorts, "" if none comes up.
func (a *author) name(sorts ...string) string {
	for range 20 {
		name := pick(a.chance, []string{"a", "b", "x", "v", "r", "s", "w", "A", "B", "o", "p", "k", "d"})
		if slices.Contains(sorts, a.sort(name)) {
			return name
		}
	}
	return ""
}

func (a *author) statement(deep int) string {
	switch a.below(14) {
	case 0, 1, 2:
		name := pick(a.chance, localNames)
		last := len(a.blocks) - 1
		if slices.Contains(a.blocks[last], name) {
			return a.setting()
		}
		s := fmt.Sprintf("let %s = %s", name, a.expr(3))
		a.blocks[last] = append(a.blocks[last], name)
		return s
	case 3, 4, 5:
		return a.setting()
	case 6, 7:
		s := "if " + a.expr(2) + " " + a.block(deep+1)
		for a.below(3) == 0 && strings.Count(s, "else") < 3 {
			s += " else if " + a.expr(2) + " " + a.block(deep+1)
		}
		if a.below(2) == 0 {
			s += " else " + a.block(deep+1)
		}
		return s
	case 8:
		s := "while " + a.expr(2) + " "
		a.loops++
		s += a.block(deep + 1)
		a.loops--
		return s
	case 9:
		if a.loops > 0 {
			return pick(a.chance, []string{"break", "continue"})
		}
		return a.setting()
	case 10:
		if a.below(3) == 0 {
			return pick(a.chance, []string{"return", "fail " + a.expr(2)})
		}
	}
	return a.sending()
}

func (a *author) setting() string {
	if name := a.name("local", "word"); name != "" && a.below(3) > 0 {
		return name + " = " + a.expr(3)
	}
	if name := a.name("words"); name != "" {
		return fmt.Sprintf("%s[%s] = %s", name, a.index(a.vars[name]), a.expr(3))
	}
	return a.sending()
}

// sending is as a rule a right one.
func (a *author) sending() string {
	to, after := "me", fmt.Sprint(2+a.below(4))
	if name := a.name("parts"); name != "" && a.below(3) == 0 {
		to = fmt.Sprintf("%s[%s]", name, a.index(a.places[name]))
	}
	if a.below(8) == 0 {
		to = a.expr(1)
	}
	if a.below(8) == 0 {
		after = a.expr(1)
	}
	return fmt.Sprintf("send %s(%s) to %s after %s", pick(a.chance, a.kinds), a.expr(2), to, after)
}

// index is as a rule in its row.
func (a *author) index(size int) string {
	if a.below(8) == 0 {
		return a.expr(1)
	}
	return fmt.Sprint(a.below(size))
}

func (a *author) literal() string {
	n := a.number()
	if n < 0 {
		n = ^n
		return fmt.Sprint("~", n)
	}
	return fmt.Sprint(n)
}

func (a *author) expr(deep int) string {
	if deep == 0 || a.below(4) == 0 {
		return a.leaf()
	}
	switch a.below(10) {
	case 0:
		return pick(a.chance, []string{"-", "!", "~"}) + "(" + a.expr(deep-1) + ")"
	case 1:
		return fmt.Sprintf("%s(%s, %s)", pick(a.chance, []string{"min", "max"}), a.expr(deep-1), a.expr(deep-1))
	case 2:
		n := fmt.Sprint(1 + a.below(9))
		if a.below(5) == 0 {
			n = a.expr(deep - 1)
		}
		return fmt.Sprintf("%s(%s)", pick(a.chance, []string{"roll", "wait"}), n)
	case 3:
		if name := a.name("words"); name != "" {
			return fmt.Sprintf("%s[%s]", name, a.index(a.vars[name]))
		}
		if name := a.name("parts"); name != "" {
			return fmt.Sprintf("%s[%s]", name, a.index(a.places[name]))
		}
	}
	return fmt.Sprintf("(%s) %s (%s)", a.expr(deep-1), pick(a.chance, operations), a.expr(deep-1))
}

func (a *author) leaf() string {
	switch a.below(6) {
	case 0:
		return pick(a.chance, []string{"now", "me", "from"})
	case 1, 2:
		return a.literal()
	}
	if name := a.name("local", "fixed", "word"); name != "" {
		return name
	}
	return a.literal()
}
