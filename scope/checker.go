package scope

import (
	"errors"
	"slices"

	"horizon/api"
)

// checker is what is known of a valid tree. What declares a name is told by its node's place; 0, the scene's place, stands for nothing that does.
type checker struct {
	nodes    []api.Node
	faults   map[int]error
	settings map[int]int    // by their Op
	globals  map[string]int // consts, kinds, types, places
	numbers  map[int]int    // of what declares a global name: how many of its sort are ahead of it
	consts   map[string]constant
	values   map[int]int64          // of those constant expressions that have one
	sizes    map[int]int            // of those vars and places that are rows of a size that can be
	firsts   map[int]int            // of vars and places: the first word in the type, the first part
	vars     map[int]map[string]int // of each type, of several of one name the first
}

func newChecker(nodes []api.Node) *checker {
	return &checker{
		nodes:    nodes,
		faults:   map[int]error{},
		settings: map[int]int{},
		globals:  map[string]int{},
		numbers:  map[int]int{},
		consts:   map[string]constant{},
		values:   map[int]int64{},
		sizes:    map[int]int{},
		firsts:   map[int]int{},
		vars:     map[int]map[string]int{},
	}
}

// check goes through the tree rule by rule: names are known, and values computed, ahead of what asks for them, wherever that stands.
func (c *checker) check() {
	c.declareGlobals()
	c.takeSettings()
	c.computeConstants()
	c.measureRows()
	c.checkTypes()
	c.checkPlaces()
	c.checkStarts()
}

// fault keeps what is found first: the rules for one node are asked in the document's order.
func (c *checker) fault(at int, err error) {
	if c.faults[at] == nil {
		c.faults[at] = err
	}
}

func (c *checker) told() error {
	var found []int
	for at := range c.faults {
		found = append(found, at)
	}
	slices.Sort(found)
	many := &api.ManyError{}
	for _, at := range found[:min(len(found), api.MaxTold)] {
		many.List = append(many.List, placed(c.nodes[at], c.faults[at]))
	}
	return many
}

func (c *checker) declareGlobals() {
	count := map[int]int{}
	for at, n := range c.nodes {
		most, declares := bound(n.Kind)
		if !declares {
			continue
		}
		if c.globals[n.Name] != 0 {
			c.fault(at, api.ErrTwice)
			continue
		}
		c.globals[n.Name] = at
		c.numbers[at] = count[n.Kind]
		count[n.Kind]++
		if count[n.Kind] > most {
			c.fault(at, api.ErrCount)
		}
	}
}

// bound is how many a text may declare of a sort. There may be as many places as there is room for: their parts are counted.
func bound(kind int) (most int, declares bool) {
	switch kind {
	case api.NConst:
		return api.MaxConsts, true
	case api.NKind:
		return api.MaxKinds, true
	case api.NType:
		return api.MaxTypes, true
	case api.NPlace:
		return api.MaxNodes, true
	}
	return 0, false
}

func (c *checker) takeSettings() {
	for at, n := range c.nodes {
		if n.Kind != api.NSetting {
			continue
		}
		if c.settings[n.Op] != 0 {
			c.fault(at, api.ErrTwice)
		}
		c.settings[n.Op] = at
		if !settingFits(n.Op, n.Num) {
			c.fault(at, api.ErrRange)
		}
	}
	if c.settings[api.TLook] == 0 || c.settings[api.TEnd] == 0 {
		c.fault(0, api.ErrMissing)
	}
}

func settingFits(op int, number uint64) bool {
	switch op {
	case api.TLook:
		return number >= 1
	case api.TBudget:
		return number <= api.MaxBudget
	case api.TFuel:
		return number >= 1 && number <= api.MaxFuel
	}
	return true
}

// computeConstants knows at each expression the consts ahead of it: a const joins them when its own expression is done.
func (c *checker) computeConstants() {
	for at, n := range c.nodes {
		for _, kid := range constantKids(n) {
			c.compute(kid)
		}
		if n.Kind == api.NConst && c.globals[n.Name] == at {
			value, ok := c.values[n.Kids[0]]
			c.consts[n.Name] = constant{value: value, none: !ok}
		}
	}
}

// constantKids are those kids of a node that are constant expressions.
func constantKids(n api.Node) []int {
	switch n.Kind {
	case api.NConst, api.NVar, api.NGive:
		return n.Kids
	case api.NPlace:
		return n.Kids[:n.Op]
	case api.NStart:
		return slices.Concat(n.Kids[:1], n.Kids[2:])
	}
	return nil
}

func (c *checker) compute(at int) {
	value, err := folder{c.nodes, c.consts}.fold(at)
	var flaw *nodeError
	switch {
	case err == nil:
		c.values[at] = value
	case errors.Is(err, errNoValue):
		// The const has its fault already.
	case errors.As(err, &flaw):
		c.fault(flaw.node, flaw.err)
	}
}

// measureRows is done with all rows ahead of the first that is given to, or started: that may be declared behind.
func (c *checker) measureRows() {
	for at, n := range c.nodes {
		switch n.Kind {
		case api.NVar:
			c.measure(at, api.MaxWords)
		case api.NPlace:
			c.measure(at, api.MaxParts)
		}
	}
}

func (c *checker) measure(at int, most int64) {
	if !c.isRow(at) {
		return
	}
	size := c.nodes[at].Kids[0]
	value, ok := c.values[size]
	switch {
	case !ok:
	case value < 1 || value > most:
		c.fault(size, api.ErrSize)
	default:
		c.sizes[at] = int(value)
	}
}

// isRow asks for a size, whether that can be or not. Of what declares a name vars and places alone have an Op.
func (c *checker) isRow(at int) bool { return c.nodes[at].Op&1 == 1 }

// width is how many words or parts are counted for a var or a place.
func (c *checker) width(at int) int { return max(1, c.sizes[at]) }

// global is what declares a node's name, if that is of the kind that is wanted; else 0.
func (c *checker) global(at, kind int) int {
	found := c.globals[c.nodes[at].Name]
	if !c.judge(at, found, c.nodes[found].Kind == kind) {
		return 0
	}
	return found
}

// judge tells whether what a node names is there, and of a sort that fits.
func (c *checker) judge(at, found int, fits bool) bool {
	switch {
	case found == 0:
		c.fault(at, api.ErrUnknown)
	case !fits:
		c.fault(at, api.ErrSort)
	default:
		return true
	}
	return false
}

// checkIndex says nothing of a row whose size cannot be.
func (c *checker) checkIndex(at, row int) {
	value, ok := c.values[at]
	size := int64(c.sizes[row])
	if ok && size > 0 && (value < 0 || value >= size) {
		c.fault(at, api.ErrSize)
	}
}
