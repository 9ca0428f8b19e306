package codegen_test

import (
	"fmt"
	"slices"
	"strings"

	"horizon/api"
	"horizon/vm"
)

// speller tells a type's handlers as a listing with labels: the tables of 7.2 and 7.3, row by row.
type speller struct {
	nodes  []api.Node
	scene  api.Scene
	of     api.Type
	param  string
	blocks [][]string // the locals of the blocks that are open
	loops  [][2]string
	lines  []string
	labels int
	most   int
}

// spelled is the program of a type by the chapter.
func spelled(tree api.Tree, s api.Scene, of api.Type) api.Program {
	w := &speller{nodes: tree.Nodes, scene: s, of: of}
	entry := slices.Repeat([]string{"-"}, len(s.Kinds))
	for i, h := range of.Handlers {
		entry[h.Kind] = fmt.Sprint("on", i)
		w.param = h.Param
		w.mark(entry[h.Kind])
		w.statement(w.nodes[h.Node].Kids[1])
		w.say("stop")
	}
	head := fmt.Sprintf("words %d\nlocals %d\nentry %s\n", len(of.First), w.most, strings.Join(entry, " "))
	p, err := vm.Assemble(head + strings.Join(w.lines, "\n"))
	if err != nil {
		panic(err)
	}
	return p
}

func (w *speller) say(form string, args ...any) {
	w.lines = append(w.lines, fmt.Sprintf(form, args...))
}

func (w *speller) mark(label string) { w.say("%s:", label) }

func (w *speller) label() string {
	w.labels++
	return fmt.Sprint("L", w.labels)
}

// known is how many locals are.
func (w *speller) known() int {
	n := 0
	for _, b := range w.blocks {
		n += len(b)
	}
	return n
}

// means is the sort of a name, with its number (or value) and its size.
func (w *speller) means(name string) (sort string, number, size int64) {
	known := slices.Concat(w.blocks...)
	for i := len(known) - 1; i >= 0; i-- {
		if known[i] == name {
			return "local", int64(i), 0
		}
	}
	if name == w.param {
		return "param", 0, 0
	}
	for _, v := range w.of.Vars {
		if v.Name == name && v.Size == 0 {
			return "word", int64(v.At), 0
		} else if v.Name == name {
			return "words", int64(v.At), int64(v.Size)
		}
	}
	for _, c := range w.scene.Consts {
		if c.Name == name {
			return "const", c.Value, 0
		}
	}
	for _, p := range w.scene.Places {
		if p.Name == name && p.Size == 0 {
			return "part", int64(p.At), 0
		} else if p.Name == name {
			return "parts", int64(p.At), int64(p.Size)
		}
	}
	panic(name)
}

func (w *speller) statement(at int) {
	n := w.nodes[at]
	switch n.Kind {
	case api.NBlock:
		w.blocks = append(w.blocks, nil)
		for _, kid := range n.Kids {
			w.statement(kid)
		}
		w.blocks = w.blocks[:len(w.blocks)-1]
	case api.NLet:
		w.value(n.Kids[0])
		w.say("put %d", w.known())
		last := len(w.blocks) - 1
		w.blocks[last] = append(w.blocks[last], n.Name)
		w.most = max(w.most, w.known())
	case api.NSet:
		w.value(n.Kids[0])
		sort, number, _ := w.means(n.Name)
		w.say(map[string]string{"local": "put %d", "word": "save %d"}[sort], number)
	case api.NSetAt:
		w.value(n.Kids[0])
		w.value(n.Kids[1])
		_, number, size := w.means(n.Name)
		w.say("savex %d %d", number, size)
	case api.NIf:
		w.choice(n)
	case api.NWhile:
		k, l := w.label(), w.label()
		w.mark(k)
		w.value(n.Kids[0])
		w.say("zero %s", l)
		w.loops = append(w.loops, [2]string{k, l})
		w.statement(n.Kids[1])
		w.loops = w.loops[:len(w.loops)-1]
		w.say("jump %s", k)
		w.mark(l)
	case api.NBreak:
		w.say("jump %s", w.loops[len(w.loops)-1][1])
	case api.NContinue:
		w.say("jump %s", w.loops[len(w.loops)-1][0])
	case api.NReturn:
		w.say("stop")
	case api.NSend:
		w.value(n.Kids[0])
		w.value(n.Kids[1])
		w.value(n.Kids[2])
		w.say("send %d", slices.Index(w.scene.Kinds, n.Name))
	case api.NFail:
		w.value(n.Kids[0])
		w.say("fail")
	}
}

func (w *speller) choice(n api.Node) {
	l, m := w.label(), w.label()
	w.value(n.Kids[0])
	w.say("zero %s", l)
	w.statement(n.Kids[1])
	if len(n.Kids) == 2 {
		w.mark(l)
		return
	}
	w.say("jump %s", m)
	w.mark(l)
	w.statement(n.Kids[2])
	w.mark(m)
}

// Which instruction an operator is.
var (
	twoSided = map[int]string{
		api.OpEq: "eq", api.OpNe: "ne", api.OpLt: "lt", api.OpLe: "le", api.OpGt: "gt", api.OpGe: "ge",
		api.OpBitOr: "or", api.OpBitXor: "xor", api.OpBitAnd: "and", api.OpShl: "shl", api.OpShr: "shr",
		api.OpAdd: "add", api.OpSub: "sub", api.OpMul: "mul", api.OpDiv: "div", api.OpMod: "mod",
	}
	oneSided = map[int]string{api.OpSub: "neg", api.OpNot: "not", api.OpFlip: "flip"}
	called   = map[int]string{
		api.NNow: "now", api.NMe: "me", api.NFrom: "from", api.NRoll: "roll", api.NWait: "wait", api.NLeast: "min", api.NMost: "max",
	}
)

// instruction of a node that has one of its own, behind what lies in it.
func instruction(n api.Node) string {
	switch n.Kind {
	case api.NBinary:
		return twoSided[n.Op]
	case api.NUnary:
		return oneSided[n.Op]
	}
	return called[n.Kind]
}

func (w *speller) value(at int) {
	n := w.nodes[at]
	switch {
	case n.Kind == api.NNumber:
		w.say("push %d", n.Num)
	case n.Kind == api.NName:
		sort, number, _ := w.means(n.Name)
		if sort == "param" {
			w.say("data")
			return
		}
		w.say(map[string]string{"local": "get %d", "word": "load %d", "const": "push %d", "part": "push %d"}[sort], number)
	case n.Kind == api.NIndex:
		w.value(n.Kids[0])
		sort, number, size := w.means(n.Name)
		w.say(map[string]string{"words": "loadx %d %d", "parts": "row %d %d"}[sort], number, size)
	case n.Kind == api.NBinary && n.Op == api.OpAnd:
		f, e := w.label(), w.label()
		w.value(n.Kids[0])
		w.say("zero %s", f)
		w.value(n.Kids[1])
		w.say("bool")
		w.say("jump %s", e)
		w.mark(f)
		w.say("push 0")
		w.mark(e)
	case n.Kind == api.NBinary && n.Op == api.OpOr:
		r, e := w.label(), w.label()
		w.value(n.Kids[0])
		w.say("zero %s", r)
		w.say("push 1")
		w.say("jump %s", e)
		w.mark(r)
		w.value(n.Kids[1])
		w.say("bool")
		w.mark(e)
	default:
		for _, kid := range n.Kids {
			w.value(kid)
		}
		w.say("%s", instruction(n))
	}
}

// height is how many values an expression or a statement lays on the stack at most.
func height(nodes []api.Node, at int) int {
	n := nodes[at]
	most := 0
	if n.Kind >= api.NNumber {
		most = 1
	}
	for i, kid := range n.Kids {
		under := 0
		switch {
		case n.Kind == api.NBlock, n.Kind == api.NIf, n.Kind == api.NWhile:
		case n.Kind == api.NBinary && (n.Op == api.OpAnd || n.Op == api.OpOr):
		default:
			// Side by side: what was computed first lies under the next.
			under = i
		}
		most = max(most, under+height(nodes, kid))
	}
	return most
}

// knownIn is how many locals are known at one place of a statement at most, if so many are known ahead of it; a let leaves one more.
func knownIn(nodes []api.Node, at, ahead int) int {
	n := nodes[at]
	if n.Kind == api.NLet {
		return ahead + 1
	}
	most := ahead
	for _, kid := range n.Kids {
		if nodes[kid].Kind >= api.NNumber {
			continue
		}
		most = max(most, knownIn(nodes, kid, ahead))
		if nodes[kid].Kind == api.NLet {
			ahead++
		}
	}
	return most
}

// length is how many instructions stand for an expression or a statement.
func length(nodes []api.Node, at int) int {
	n := nodes[at]
	sum := 0
	for _, kid := range n.Kids {
		sum += length(nodes, kid)
	}
	switch {
	case n.Kind == api.NBlock:
		return sum
	case n.Kind == api.NIf:
		return sum + len(n.Kids) - 1
	case n.Kind == api.NWhile:
		return sum + 2
	case n.Kind == api.NBinary && (n.Op == api.OpAnd || n.Op == api.OpOr):
		return sum + 4
	}
	return sum + 1
}

// tooLarge is 7.4's list; the zero answer, if no handler is too large.
func tooLarge(tree api.Tree, s api.Scene) at {
	for _, of := range s.Types {
		size := 0
		for _, h := range of.Handlers {
			on := tree.Nodes[h.Node]
			block := on.Kids[1]
			size += length(tree.Nodes, block) + 1
			found := at{line: on.Line, col: on.Col}
			switch {
			case knownIn(tree.Nodes, block, 0) > api.MaxLocals:
				found.code = api.ErrLocals
			case height(tree.Nodes, block) > api.MaxStack:
				found.code = api.ErrHigh
			case size > api.MaxCode:
				found.code = api.ErrBig
			default:
				continue
			}
			return found
		}
	}
	return at{}
}
