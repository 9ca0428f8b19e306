package scope_test

import (
	"math/big"

	"horizon/api"
)

// book is a tree that is read by the chapter's words, for each node and each rule anew: what is ahead is looked through again each time. Only what was computed is kept.
type book struct {
	nodes  []api.Node
	parent []int
	worths map[int]worth
}

// worth is what is said of a constant expression: a fault at a node of it, or its value, or neither.
type worth struct {
	at    int
	code  api.Errno
	value *big.Int
}

func open(t api.Tree) *book {
	b := &book{nodes: t.Nodes, parent: make([]int, len(t.Nodes)), worths: map[int]worth{}}
	b.parent[0] = -1
	for i, n := range t.Nodes {
		for _, kid := range n.Kids {
			b.parent[kid] = i
		}
	}
	return b
}

func (b *book) is(x int, kinds ...int) bool {
	if x < 0 {
		return false
	}
	for _, k := range kinds {
		if b.nodes[x].Kind == k {
			return true
		}
	}
	return false
}

// up is the nearest node of these kinds in which a node lies, or -1.
func (b *book) up(x int, kinds ...int) int {
	for x = b.parent[x]; x >= 0 && !b.is(x, kinds...); {
		x = b.parent[x]
	}
	return x
}

func (b *book) lies(x, in int) bool {
	for x = b.parent[x]; x >= 0; x = b.parent[x] {
		if x == in {
			return true
		}
	}
	return false
}

// all nodes of these kinds, in their order.
func (b *book) all(kinds ...int) []int {
	var l []int
	for x := range b.nodes {
		if b.is(x, kinds...) {
			l = append(l, x)
		}
	}
	return l
}

// kids of these kinds.
func (b *book) kids(x int, kinds ...int) []int {
	var l []int
	for _, kid := range b.nodes[x].Kids {
		if b.is(kid, kinds...) {
			l = append(l, kid)
		}
	}
	return l
}

// first of some nodes that has a name; -1 if none has.
func (b *book) first(l []int, name string) int {
	for _, x := range l {
		if b.nodes[x].Name == name {
			return x
		}
	}
	return -1
}

func (b *book) global(name string) int {
	return b.first(b.all(api.NConst, api.NKind, api.NType, api.NPlace), name)
}

func (b *book) sized(x int) bool { return b.is(x, api.NVar, api.NPlace) && b.nodes[x].Op%2 == 1 }

// fold is 5.1, with any meaning of names: it says what a const is worth, and whether there is one.
func (b *book) fold(root int, known func(string) (worth, bool)) worth {
	lacks := false
	for x := root; x < len(b.nodes); x++ {
		if x != root && !b.lies(x, root) {
			continue
		}
		n := b.nodes[x]
		if b.is(x, api.NNumber) && n.Num >= 1<<63 {
			return worth{at: x, code: api.ErrRange}
		}
		if b.is(x, api.NName) {
			w, ok := known(n.Name)
			if !ok {
				return worth{at: x, code: api.ErrUnknown}
			}
			lacks = lacks || w.value == nil
		}
		if b.is(x, api.NIndex, api.NNow, api.NMe, api.NFrom, api.NRoll, api.NWait) {
			return worth{at: x, code: api.ErrFold}
		}
	}
	if lacks {
		return worth{at: -1}
	}
	return b.reckon(root, known)
}

func (b *book) reckon(x int, known func(string) (worth, bool)) worth {
	n := b.nodes[x]
	switch n.Kind {
	case api.NNumber:
		return worth{value: new(big.Int).SetUint64(n.Num)}
	case api.NName:
		w, _ := known(n.Name)
		return w
	}
	l := []*big.Int{}
	for _, kid := range n.Kids {
		w := b.reckon(kid, known)
		if w.value == nil {
			return w
		}
		l = append(l, w.value)
		if len(l) == 1 && n.Op == api.OpAnd && l[0].Sign() == 0 {
			return worth{value: big.NewInt(0)}
		}
		if len(l) == 1 && n.Op == api.OpOr && l[0].Sign() != 0 {
			return worth{value: big.NewInt(1)}
		}
	}
	v := apply(n, l)
	if v == nil {
		return worth{at: x, code: api.ErrFold}
	}
	return worth{value: wrapped(v)}
}

// wrapped is the number from -2^63 on that differs from v by a multiple of 2^64.
func wrapped(v *big.Int) *big.Int {
	all, half := new(big.Int).Lsh(big.NewInt(1), 64), new(big.Int).Lsh(big.NewInt(1), 63)
	v = new(big.Int).Add(v, half)
	v.Mod(v, all)
	return v.Sub(v, half)
}

func bit(yes bool) *big.Int {
	if yes {
		return big.NewInt(1)
	}
	return big.NewInt(0)
}

// apply computes with numbers that have no bounds; nil where it cannot be.
func apply(n api.Node, l []*big.Int) *big.Int {
	v, x := new(big.Int), l[0]
	if n.Kind == api.NUnary {
		return map[int]*big.Int{api.OpSub: v.Neg(x), api.OpFlip: new(big.Int).Not(x), api.OpNot: bit(x.Sign() == 0)}[n.Op]
	}
	y := l[1]
	less := x.Cmp(y)
	if n.Kind == api.NLeast && less < 0 || n.Kind == api.NMost && less > 0 {
		return x
	}
	if n.Kind != api.NBinary {
		return y
	}
	switch n.Op {
	case api.OpOr, api.OpAnd:
		return bit(y.Sign() != 0)
	case api.OpEq:
		return bit(less == 0)
	case api.OpNe:
		return bit(less != 0)
	case api.OpLt:
		return bit(less < 0)
	case api.OpLe:
		return bit(less <= 0)
	case api.OpGt:
		return bit(less > 0)
	case api.OpGe:
		return bit(less >= 0)
	case api.OpBitOr:
		return v.Or(x, y)
	case api.OpBitXor:
		return v.Xor(x, y)
	case api.OpBitAnd:
		return v.And(x, y)
	case api.OpAdd:
		return v.Add(x, y)
	case api.OpSub:
		return v.Sub(x, y)
	case api.OpMul:
		return v.Mul(x, y)
	case api.OpDiv, api.OpMod:
		return divided(n.Op, x, y)
	}
	return shifted(n.Op, x, y)
}

func divided(op int, x, y *big.Int) *big.Int {
	if y.Sign() == 0 {
		return nil
	}
	q, r := new(big.Int).QuoRem(x, y, new(big.Int))
	if op == api.OpDiv {
		return q
	}
	return r
}

// shifted by more than 64 is as shifted by 64: all bits are gone.
func shifted(op int, x, y *big.Int) *big.Int {
	if y.Sign() < 0 {
		return nil
	}
	by := uint(64)
	if y.Cmp(big.NewInt(64)) < 0 {
		by = uint(y.Int64())
	}
	if op == api.OpShl {
		return new(big.Int).Lsh(x, by)
	}
	return new(big.Int).Rsh(x, by)
}

// worth of a whole constant expression: 5.5.
func (b *book) worth(root int) worth {
	if w, ok := b.worths[root]; ok {
		return w
	}
	w := b.fold(root, func(name string) (worth, bool) {
		c := b.global(name)
		if !b.is(c, api.NConst) || c > root || b.lies(root, c) {
			return worth{}, false
		}
		return b.worth(b.nodes[c].Kids[0]), true
	})
	b.worths[root] = w
	return w
}

// faults of all nodes, in their order.
func (b *book) faults() []at {
	var l []at
	for x, n := range b.nodes {
		if code := b.fault(x); code != api.OK {
			l = append(l, at{n.Line, n.Col, code})
		}
	}
	return l
}

func (b *book) fault(x int) api.Errno {
	if b.nodes[x].Kind >= api.NNumber {
		return b.ofExpression(x)
	}
	if b.nodes[x].Kind >= api.NBlock {
		return b.ofStatement(x)
	}
	return b.ofItem(x)
}

func (b *book) ofItem(x int) api.Errno {
	n := b.nodes[x]
	switch n.Kind {
	case api.NScene:
		for _, op := range []int{api.TLook, api.TEnd} {
			if b.setting(op) < 0 {
				return api.ErrMissing
			}
		}
	case api.NSetting:
		return b.ofSetting(x)
	case api.NConst, api.NKind, api.NType, api.NPlace:
		if b.global(n.Name) != x {
			return api.ErrTwice
		}
		if n.Kind == api.NPlace {
			if b.partsUpTo(x) > api.MaxParts {
				return api.ErrCount
			}
		} else if b.declaredUpTo(x) > map[int]int{api.NConst: api.MaxConsts, api.NKind: api.MaxKinds, api.NType: api.MaxTypes}[n.Kind] {
			return api.ErrCount
		}
	case api.NVar:
		if b.first(b.kids(b.parent[x], api.NVar), n.Name) != x {
			return api.ErrTwice
		}
		if b.wordsUpTo(x) > api.MaxWords {
			return api.ErrCount
		}
	case api.NOn:
		if code := b.sort(b.global(n.Name), api.NKind); code != api.OK {
			return code
		}
		if b.first(b.kids(b.parent[x], api.NOn), n.Name) != x {
			return api.ErrTwice
		}
	case api.NGive:
		return b.ofGive(x)
	case api.NStart:
		if code := b.sort(b.global(n.Name), api.NKind); code != api.OK {
			return code
		}
		if b.startsUpTo(x) > api.MaxStarts {
			return api.ErrCount
		}
	}
	return api.OK
}

// sort is what is wrong with what a name was found to be, where a kind of declaration is wanted.
func (b *book) sort(found int, want ...int) api.Errno {
	if found < 0 {
		return api.ErrUnknown
	}
	if !b.is(found, want...) {
		return api.ErrSort
	}
	return api.OK
}

// setting is the first of an Op.
func (b *book) setting(op int) int {
	for _, x := range b.all(api.NSetting) {
		if b.nodes[x].Op == op {
			return x
		}
	}
	return -1
}

func (b *book) ofSetting(x int) api.Errno {
	n := b.nodes[x]
	if b.setting(n.Op) != x {
		return api.ErrTwice
	}
	low := map[int]uint64{api.TLook: 1, api.TFuel: 1}[n.Op]
	high, bounded := map[int]uint64{api.TBudget: api.MaxBudget, api.TFuel: api.MaxFuel}[n.Op]
	if n.Num < low || bounded && n.Num > high {
		return api.ErrRange
	}
	return api.OK
}

func (b *book) declaredUpTo(x int) int {
	count := 0
	for _, y := range b.all(b.nodes[x].Kind) {
		if y <= x && b.global(b.nodes[y].Name) == y {
			count++
		}
	}
	return count
}

// size of a row, or 0 if it has none that can be.
func (b *book) size(x int) int {
	if !b.sized(x) {
		return 0
	}
	most := int64(api.MaxWords)
	if b.is(x, api.NPlace) {
		most = api.MaxParts
	}
	v := b.worth(b.nodes[x].Kids[0]).value
	if v == nil || v.Int64() < 1 || v.Int64() > most {
		return 0
	}
	return int(v.Int64())
}

func (b *book) counted(x int) int {
	if s := b.size(x); s > 0 {
		return s
	}
	return 1
}

func (b *book) wordsUpTo(x int) int {
	words, vars := 0, b.kids(b.parent[x], api.NVar)
	for _, v := range vars {
		if v <= x && b.first(vars, b.nodes[v].Name) == v {
			words += b.counted(v)
		}
	}
	return words
}

func (b *book) partsUpTo(x int) int {
	parts := 0
	for _, p := range b.all(api.NPlace) {
		if p <= x && b.global(b.nodes[p].Name) == p {
			parts += b.counted(p)
		}
	}
	return parts
}

func (b *book) startsUpTo(x int) int {
	starts := 0
	for _, s := range b.all(api.NStart) {
		if s <= x {
			starts += b.made(s)
		}
	}
	return starts
}

func (b *book) made(start int) int {
	place := b.global(b.nodes[b.nodes[start].Kids[1]].Name)
	if b.nodes[start].Op == 0 && b.is(place, api.NPlace) && b.sized(place) {
		return b.counted(place)
	}
	return 1
}

// typeName is the NName of a place's type; given is the var that a give names, if the type is one.
func (b *book) typeName(place int) int { return b.kids(place, api.NName)[b.skipped(place)] }

// skipped is 1 if the size of a place is an NName, too.
func (b *book) skipped(place int) int {
	if b.sized(place) && b.is(b.nodes[place].Kids[0], api.NName) {
		return 1
	}
	return 0
}

func (b *book) given(give int) (variable int, said bool) {
	typ := b.global(b.nodes[b.typeName(b.parent[give])].Name)
	if !b.is(typ, api.NType) {
		return -1, false
	}
	return b.first(b.kids(typ, api.NVar), b.nodes[give].Name), true
}

func (b *book) ofGive(x int) api.Errno {
	v, said := b.given(x)
	if !said {
		return api.OK
	}
	if v < 0 {
		return api.ErrUnknown
	}
	if b.nodes[x].Op == 1 && !b.sized(v) {
		return api.ErrSort
	}
	for _, other := range b.kids(b.parent[x], api.NGive) {
		if other >= x {
			continue
		}
		if w, _ := b.given(other); w == v && meet(b.words(other), b.words(x)) {
			return api.ErrTwice
		}
	}
	return api.OK
}

func meet(a, b []int) bool {
	for _, x := range a {
		for _, y := range b {
			if x == y {
				return true
			}
		}
	}
	return false
}

// words of its var that a give gives, counted from 0 in the var.
func (b *book) words(give int) []int {
	v, _ := b.given(give)
	n := b.nodes[give]
	if v < 0 || n.Op == 1 && !b.sized(v) {
		return nil
	}
	if !b.sized(v) {
		return []int{0}
	}
	var l []int
	for i := range b.size(v) {
		if n.Op == 0 {
			l = append(l, i)
		} else if at := b.worth(n.Kids[0]).value; at != nil && at.Cmp(big.NewInt(int64(i))) == 0 {
			l = append(l, i)
		}
	}
	return l
}

func (b *book) ofStatement(x int) api.Errno {
	n := b.nodes[x]
	switch n.Kind {
	case api.NLet:
		if b.first(b.kids(b.parent[x], api.NLet), n.Name) != x {
			return api.ErrTwice
		}
	case api.NSet:
		found := b.find(x)
		if code := b.sort(found, api.NLet, api.NVar); code != api.OK {
			return code
		}
		if b.sized(found) {
			return api.ErrSort
		}
	case api.NSetAt:
		found := b.find(x)
		if code := b.sort(found, api.NVar); code != api.OK {
			return code
		}
		if !b.sized(found) {
			return api.ErrSort
		}
	case api.NBreak, api.NContinue:
		if b.up(x, api.NWhile) < 0 {
			return api.ErrLoop
		}
	case api.NSend:
		return b.sort(b.global(n.Name), api.NKind)
	}
	return api.OK
}

// find is what declares a node's name as it is sought from there.
func (b *book) find(x int) int {
	name := b.nodes[x].Name
	for y := x; !b.is(y, api.NOn); y = b.parent[y] {
		if !b.is(b.parent[y], api.NBlock) {
			continue
		}
		for _, let := range b.kids(b.parent[y], api.NLet) {
			if let < y && b.nodes[let].Name == name {
				return let
			}
		}
	}
	on := b.up(x, api.NOn)
	if param := b.nodes[on].Kids[0]; b.nodes[param].Name == name {
		return param
	}
	if v := b.first(b.kids(b.up(x, api.NType), api.NVar), name); v >= 0 {
		return v
	}
	return b.global(name)
}

func (b *book) ofExpression(x int) api.Errno {
	if b.up(x, api.NBlock) >= 0 {
		return b.inHandler(x)
	}
	over := b.parent[x]
	switch {
	case b.is(over, api.NOn):
		return api.OK
	case b.is(over, api.NPlace) && b.typeName(over) == x:
		return b.sort(b.global(b.nodes[x].Name), api.NType)
	case b.is(over, api.NStart) && b.nodes[over].Kids[1] == x:
		place := b.global(b.nodes[x].Name)
		code := b.sort(place, api.NPlace)
		if code == api.OK && b.nodes[over].Op == 1 && !b.sized(place) {
			code = api.ErrSort
		}
		return code
	}
	root := x
	for b.nodes[b.parent[root]].Kind >= api.NNumber {
		root = b.parent[root]
	}
	w := b.worth(root)
	if w.code != api.OK && w.at == x {
		return w.code
	}
	if x == root && w.value != nil && !b.measureFits(x, w.value) {
		return api.ErrSize
	}
	return api.OK
}

// measureFits tells whether a size or an index is one that may be.
func (b *book) measureFits(x int, v *big.Int) bool {
	over := b.parent[x]
	row := -1
	switch {
	case b.sized(over) && b.nodes[over].Kids[0] == x:
		return b.size(over) > 0
	case b.is(over, api.NGive) && b.nodes[over].Op == 1 && b.nodes[over].Kids[0] == x:
		row, _ = b.given(over)
	case b.is(over, api.NStart) && b.nodes[over].Op == 1 && b.nodes[over].Kids[2] == x:
		row = b.global(b.nodes[b.nodes[over].Kids[1]].Name)
	}
	return !b.sized(row) || b.size(row) == 0 || v.Sign() >= 0 && v.Cmp(big.NewInt(int64(b.size(row)))) < 0
}

func (b *book) inHandler(x int) api.Errno {
	n := b.nodes[x]
	switch n.Kind {
	case api.NNumber:
		if n.Num >= 1<<63 {
			return api.ErrRange
		}
	case api.NName:
		found := b.find(x)
		if code := b.sort(found, api.NLet, api.NName, api.NVar, api.NConst, api.NPlace); code != api.OK {
			return code
		}
		if b.sized(found) {
			return api.ErrSort
		}
	case api.NIndex:
		found := b.find(x)
		if code := b.sort(found, api.NVar, api.NPlace); code != api.OK {
			return code
		}
		if !b.sized(found) {
			return api.ErrSort
		}
	}
	return api.OK
}

// number of a global name: how many of its sort are ahead of it.
func (b *book) number(name string) int { return b.declaredUpTo(b.global(name)) - 1 }

func (b *book) value(x int) int64 { return b.worth(x).value.Int64() }

func (b *book) settingOr(op int, usual uint64) uint64 {
	if x := b.setting(op); x >= 0 {
		return b.nodes[x].Num
	}
	return usual
}

// scene is 5.10, for a tree without faults.
func (b *book) scene() api.Scene {
	s := api.Scene{
		Seed:   b.settingOr(api.TSeed, 0),
		Look:   b.settingOr(api.TLook, 0),
		End:    b.settingOr(api.TEnd, 0),
		Budget: int(b.settingOr(api.TBudget, 1000)),
		Fuel:   int(b.settingOr(api.TFuel, 1000)),
	}
	for _, x := range b.all(api.NConst) {
		s.Consts = append(s.Consts, api.Const{Name: b.nodes[x].Name, Value: b.value(b.nodes[x].Kids[0])})
	}
	for _, x := range b.all(api.NKind) {
		s.Kinds = append(s.Kinds, b.nodes[x].Name)
	}
	for _, x := range b.all(api.NType) {
		s.Types = append(s.Types, b.typed(x))
	}
	for _, x := range b.all(api.NPlace) {
		typ := b.nodes[b.typeName(x)].Name
		p := api.Place{Name: b.nodes[x].Name, Type: b.number(typ), At: b.partsUpTo(x) - b.counted(x), Size: b.size(x)}
		s.Places = append(s.Places, p)
		for range b.counted(x) {
			s.Parts = append(s.Parts, api.Part{Program: p.Type, Words: b.wordsOf(x, s.Types[p.Type])})
		}
	}
	for _, x := range b.all(api.NStart) {
		n := b.nodes[x]
		first := s.Places[b.number(b.nodes[n.Kids[1]].Name)].At
		if n.Op == 1 {
			first += int(b.value(n.Kids[2]))
		}
		for i := range b.made(x) {
			s.Starts = append(s.Starts, api.Start{Time: n.Num, Dst: first + i, Kind: b.number(n.Name), Data: b.value(n.Kids[0])})
		}
	}
	return s
}

func (b *book) typed(x int) api.Type {
	made := api.Type{Name: b.nodes[x].Name}
	for _, v := range b.kids(x, api.NVar) {
		n := b.nodes[v]
		made.Vars = append(made.Vars, api.Var{Name: n.Name, At: b.wordsUpTo(v) - b.counted(v), Size: b.size(v)})
		for range b.counted(v) {
			switch n.Op {
			case 2:
				made.First = append(made.First, b.value(n.Kids[0]))
			case 3:
				made.First = append(made.First, b.value(n.Kids[1]))
			default:
				made.First = append(made.First, 0)
			}
		}
	}
	for _, on := range b.kids(x, api.NOn) {
		param := b.nodes[b.nodes[on].Kids[0]].Name
		made.Handlers = append(made.Handlers, api.Handler{Kind: b.number(b.nodes[on].Name), Param: param, Node: on})
	}
	return made
}

func (b *book) wordsOf(place int, typ api.Type) []int64 {
	words := append([]int64{}, typ.First...)
	for _, give := range b.kids(place, api.NGive) {
		v, _ := b.given(give)
		kids := b.nodes[give].Kids
		for _, i := range b.words(give) {
			words[b.wordsUpTo(v)-b.counted(v)+i] = b.value(kids[len(kids)-1])
		}
	}
	return words
}
