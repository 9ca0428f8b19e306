package codegen_test

import (
	"math/big"
	"slices"

	"horizon/api"
	"horizon/dice"
)

// actor does what a handler means, on the tree (7.6), and counts one for each instruction that stands for what it goes through.
type actor struct {
	nodes  []api.Node
	scene  api.Scene
	of     api.Type
	param  string
	call   api.Call
	words  map[string][]int64
	blocks []map[string]int64
	dice   uint64
	sent   uint64
	out    []api.Event
	used   int
}

// How a statement ends.
const (
	goesOn = iota
	breaks
	continues
	returns
)

// acted is what a handler does on the tree.
func acted(tree api.Tree, s api.Scene, of api.Type, c api.Call) (e api.Effect) {
	for _, h := range of.Handlers {
		if h.Kind != c.Event.Kind {
			continue
		}
		a := &actor{nodes: tree.Nodes, scene: s, of: of, param: h.Param, call: c, words: map[string][]int64{}, dice: c.State.Dice, sent: c.State.Sent}
		for _, v := range of.Vars {
			a.words[v.Name] = slices.Clone(c.State.Words[v.At : v.At+max(1, v.Size)])
		}
		return a.act(tree.Nodes[h.Node].Kids[1])
	}
	return api.Effect{State: c.State}
}

func (a *actor) act(block int) (e api.Effect) {
	defer func() {
		switch fault := recover().(type) {
		case nil:
		case api.Errno:
			e = api.Effect{Code: fault, State: a.call.State, Used: a.used}
		default:
			panic(fault)
		}
	}()
	if a.statement(block) != returns {
		a.tick()
	}
	e = api.Effect{State: api.State{Dice: a.dice, Sent: a.sent}, Out: a.out, Used: a.used}
	for _, v := range a.of.Vars {
		e.State.Words = append(e.State.Words, a.words[v.Name]...)
	}
	return e
}

// tick is the fuel of one instruction.
func (a *actor) tick() {
	if a.used == a.call.Fuel {
		panic(api.FaultFuel)
	}
	a.used++
}

func (a *actor) statement(at int) int {
	n := a.nodes[at]
	switch n.Kind {
	case api.NBlock:
		return a.block(n)
	case api.NLet:
		x := a.value(n.Kids[0])
		a.tick()
		a.blocks[len(a.blocks)-1][n.Name] = x
	case api.NSet:
		x := a.value(n.Kids[0])
		a.tick()
		if b := a.holder(n.Name); b != nil {
			b[n.Name] = x
		} else {
			a.words[n.Name][0] = x
		}
	case api.NSetAt:
		i := a.value(n.Kids[0])
		x := a.value(n.Kids[1])
		a.tick()
		row := a.words[n.Name]
		row[within(i, len(row))] = x
	case api.NIf:
		return a.choice(n)
	case api.NWhile:
		return a.loop(n)
	case api.NBreak:
		a.tick()
		return breaks
	case api.NContinue:
		a.tick()
		return continues
	case api.NReturn:
		a.tick()
		return returns
	case api.NSend:
		a.send(n)
	case api.NFail:
		a.value(n.Kids[0])
		a.tick()
		panic(api.FaultUser)
	}
	return goesOn
}

func (a *actor) block(n api.Node) int {
	a.blocks = append(a.blocks, map[string]int64{})
	defer func() { a.blocks = a.blocks[:len(a.blocks)-1] }()
	for _, kid := range n.Kids {
		if how := a.statement(kid); how != goesOn {
			return how
		}
	}
	return goesOn
}

func (a *actor) choice(n api.Node) int {
	yes := a.value(n.Kids[0]) != 0
	a.tick()
	switch {
	case yes && len(n.Kids) == 3:
		how := a.statement(n.Kids[1])
		if how == goesOn {
			a.tick()
		}
		return how
	case yes:
		return a.statement(n.Kids[1])
	case len(n.Kids) == 3:
		return a.statement(n.Kids[2])
	}
	return goesOn
}

func (a *actor) loop(n api.Node) int {
	for {
		again := a.value(n.Kids[0]) != 0
		a.tick()
		if !again {
			return goesOn
		}
		switch a.statement(n.Kids[1]) {
		case goesOn:
			a.tick()
		case breaks:
			return goesOn
		case returns:
			return returns
		}
	}
}

// holder is the innermost block with a local of that name, nil if there is none.
func (a *actor) holder(name string) map[string]int64 {
	for i := len(a.blocks) - 1; i >= 0; i-- {
		if _, ok := a.blocks[i][name]; ok {
			return a.blocks[i]
		}
	}
	return nil
}

func within(i int64, size int) int64 {
	if i < 0 || i >= int64(size) {
		panic(api.FaultIndex)
	}
	return i
}

func (a *actor) value(at int) int64 {
	n := a.nodes[at]
	switch {
	case n.Kind == api.NNumber:
		a.tick()
		return int64(n.Num)
	case n.Kind == api.NName:
		a.tick()
		return a.name(n.Name)
	case n.Kind == api.NIndex:
		i := a.value(n.Kids[0])
		a.tick()
		if row, ok := a.words[n.Name]; ok {
			return row[within(i, len(row))]
		}
		p := a.place(n.Name)
		return int64(p.At) + within(i, p.Size)
	case n.Kind == api.NBinary && n.Op == api.OpAnd:
		return a.and(n)
	case n.Kind == api.NBinary && n.Op == api.OpOr:
		return a.or(n)
	}
	var of []int64
	for _, kid := range n.Kids {
		of = append(of, a.value(kid))
	}
	a.tick()
	return a.computed(n, of)
}

func (a *actor) and(n api.Node) int64 {
	left := a.value(n.Kids[0])
	a.tick()
	if left == 0 {
		a.tick()
		return 0
	}
	right := a.value(n.Kids[1])
	a.tick()
	a.tick()
	return oneIf(right != 0)
}

func (a *actor) or(n api.Node) int64 {
	left := a.value(n.Kids[0])
	a.tick()
	if left != 0 {
		a.tick()
		a.tick()
		return 1
	}
	right := a.value(n.Kids[1])
	a.tick()
	return oneIf(right != 0)
}

func (a *actor) computed(n api.Node, of []int64) int64 {
	switch n.Kind {
	case api.NNow:
		return wrapped(new(big.Int).SetUint64(a.call.Event.Key.Time))
	case api.NMe:
		return int64(a.call.Event.Dst)
	case api.NFrom:
		return int64(a.call.Event.Key.Src)
	case api.NRoll, api.NWait:
		return a.thrown(n.Kind == api.NWait, of[0])
	case api.NUnary:
		return ofOne(instruction(n), of[0])
	}
	x, fault := ofTwo(instruction(n), of[0], of[1])
	if fault != api.OK {
		panic(fault)
	}
	return x
}

func (a *actor) name(name string) int64 {
	if b := a.holder(name); b != nil {
		return b[name]
	}
	if name == a.param {
		return a.call.Event.Data
	}
	if w, ok := a.words[name]; ok {
		return w[0]
	}
	for _, c := range a.scene.Consts {
		if c.Name == name {
			return c.Value
		}
	}
	return int64(a.place(name).At)
}

func (a *actor) place(name string) api.Place {
	i := slices.IndexFunc(a.scene.Places, func(p api.Place) bool { return p.Name == name })
	return a.scene.Places[i]
}

func (a *actor) thrown(wait bool, n int64) int64 {
	if n < 1 {
		panic(api.FaultRoll)
	}
	x, s, code := dice.Below(a.dice, uint64(n))
	if wait {
		x, s, code = dice.Wait(a.dice, uint64(n))
	}
	if code != api.OK || x >= 1<<63 {
		panic(api.FaultTime)
	}
	a.dice = s
	return int64(x)
}

func (a *actor) send(n api.Node) {
	data := a.value(n.Kids[0])
	target := a.value(n.Kids[1])
	delay := a.value(n.Kids[2])
	a.tick()
	time := new(big.Int).Add(new(big.Int).SetUint64(a.call.Event.Key.Time), big.NewInt(delay))
	switch {
	case target < 0 || target >= int64(a.call.Parts):
		panic(api.FaultTarget)
	case delay < 0 || uint64(delay) < a.call.Look:
		panic(api.FaultDelay)
	case len(a.out) == api.MaxOut:
		panic(api.FaultOut)
	case !time.IsUint64():
		panic(api.FaultTime)
	}
	kind := slices.Index(a.scene.Kinds, n.Name)
	key := api.Key{Time: time.Uint64(), Src: a.call.Event.Dst, Seq: a.sent}
	a.out = append(a.out, api.Event{Key: key, Dst: int(target), Kind: kind, Data: data})
	a.sent++
}

// wrapped is a true number as 64 bits hold it, with sign.
func wrapped(n *big.Int) int64 {
	all := new(big.Int).Lsh(big.NewInt(1), 64)
	n = new(big.Int).Mod(n, all)
	if n.BitLen() == 64 {
		n.Sub(n, all)
	}
	return n.Int64()
}

func oneIf(yes bool) int64 {
	if yes {
		return 1
	}
	return 0
}

// ofOne is what an instruction makes of one value.
func ofOne(name string, a int64) int64 {
	switch name {
	case "neg":
		return wrapped(new(big.Int).Neg(big.NewInt(a)))
	case "flip":
		return wrapped(new(big.Int).Sub(big.NewInt(-1), big.NewInt(a)))
	case "not":
		return oneIf(a == 0)
	}
	return oneIf(a != 0)
}

// ofTwo is what an instruction makes of two values, or its fault.
func ofTwo(name string, a, b int64) (int64, api.Errno) {
	x, y, z := big.NewInt(a), big.NewInt(b), new(big.Int)
	order := x.Cmp(y)
	switch name {
	case "add":
		z.Add(x, y)
	case "sub":
		z.Sub(x, y)
	case "mul":
		z.Mul(x, y)
	case "div", "mod":
		if b == 0 {
			return 0, api.FaultDivide
		}
		if z.Quo(x, y); name == "mod" {
			z.Sub(x, z.Mul(z, y))
		}
	case "and":
		z.And(x, y)
	case "or":
		z.Or(x, y)
	case "xor":
		z.Xor(x, y)
	case "shl", "shr":
		if b < 0 {
			return 0, api.FaultShift
		}
		// Behind 64 places nothing changes any more.
		if z.Lsh(x, uint(min(b, 64))); name == "shr" {
			z.Rsh(x, uint(min(b, 64)))
		}
	case "min":
		return []int64{a, a, b}[order+1], api.OK
	case "max":
		return []int64{b, a, a}[order+1], api.OK
	default:
		holds := map[string][3]int64{"eq": {0, 1, 0}, "ne": {1, 0, 1}, "lt": {1, 0, 0}, "le": {1, 1, 0}, "gt": {0, 0, 1}, "ge": {0, 1, 1}}
		return holds[name][order+1], api.OK
	}
	return wrapped(z), api.OK
}
