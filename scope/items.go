package scope

import "horizon/api"

func (c *checker) checkTypes() {
	for at, n := range c.nodes {
		if n.Kind != api.NType {
			continue
		}
		// All vars ahead of the first handler: a handler knows those behind it, too.
		c.vars[at] = c.takeVars(n.Kids)
		c.checkHandlers(n.Kids, c.vars[at])
	}
}

func (c *checker) takeVars(members []int) map[string]int {
	vars := map[string]int{}
	words := 0
	for _, at := range members {
		n := c.nodes[at]
		if n.Kind != api.NVar {
			continue
		}
		if vars[n.Name] != 0 {
			c.fault(at, api.ErrTwice)
			continue
		}
		vars[n.Name] = at
		c.firsts[at] = words
		words += c.width(at)
		if words > api.MaxWords {
			c.fault(at, api.ErrCount)
		}
	}
	return vars
}

func (c *checker) checkHandlers(members []int, vars map[string]int) {
	taken := map[string]int{}
	for _, at := range members {
		n := c.nodes[at]
		if n.Kind != api.NOn {
			continue
		}
		c.global(at, api.NKind)
		if taken[n.Name] != 0 {
			c.fault(at, api.ErrTwice)
		}
		taken[n.Name] = at
		c.checkHandler(n, vars)
	}
}

func (c *checker) checkPlaces() {
	parts := 0
	for at, n := range c.nodes {
		if n.Kind != api.NPlace {
			continue
		}
		if c.globals[n.Name] == at {
			c.firsts[at] = parts
			parts += c.width(at)
			if parts > api.MaxParts {
				c.fault(at, api.ErrCount)
			}
		}
		if kind := c.global(n.Kids[n.Op], api.NType); kind != 0 {
			c.checkGives(n.Kids[n.Op+1:], c.vars[kind])
		}
	}
}

// word of a part: its var, and its place in the var's row.
type word struct {
	of int
	at int
}

func (c *checker) checkGives(gives []int, vars map[string]int) {
	given := map[word]int{}
	for _, at := range gives {
		n := c.nodes[at]
		of := vars[n.Name]
		if !c.judge(at, of, n.Op == 0 || c.isRow(of)) {
			continue
		}
		if n.Op == 1 {
			c.checkIndex(n.Kids[0], of)
		}
		from, to := c.span(n, of)
		for i := from; i < to; i++ {
			if given[word{of, i}] != 0 {
				c.fault(at, api.ErrTwice)
			}
			given[word{of, i}] = at
		}
	}
}

// span is from where to where in a var's row an NGive gives: nowhere, if the row's size or the index cannot be.
func (c *checker) span(give api.Node, of int) (from, to int) {
	if !c.isRow(of) {
		return 0, 1
	}
	if give.Op == 0 {
		return 0, c.sizes[of]
	}
	value, ok := c.values[give.Kids[0]]
	if !ok || value < 0 || value >= int64(c.sizes[of]) {
		return 0, 0
	}
	return int(value), int(value) + 1
}

func (c *checker) checkStarts() {
	starts := 0
	for at, n := range c.nodes {
		if n.Kind != api.NStart {
			continue
		}
		place := c.global(n.Kids[1], api.NPlace)
		starts += c.events(n, place)
		c.global(at, api.NKind)
		if starts > api.MaxStarts {
			c.fault(at, api.ErrCount)
		}
		if place == 0 || n.Op == 0 {
			continue
		}
		if c.judge(n.Kids[1], place, c.isRow(place)) {
			c.checkIndex(n.Kids[2], place)
		}
	}
}

// events is how many starts an NStart makes.
func (c *checker) events(start api.Node, place int) int {
	if start.Op == 1 {
		return 1
	}
	return c.width(place)
}
