package scope

import (
	"slices"

	"horizon/api"
)

// What a scenario without such a setting has.
const (
	usualSeed   = 0
	usualBudget = 1000
	usualFuel   = 1000
)

// scene is made of a tree without faults: each name is found, each value there.
func (c *checker) scene() api.Scene {
	s := api.Scene{
		Seed:   c.setting(api.TSeed, usualSeed),
		Look:   c.nodes[c.settings[api.TLook]].Num,
		End:    c.nodes[c.settings[api.TEnd]].Num,
		Budget: int(c.setting(api.TBudget, usualBudget)),
		Fuel:   int(c.setting(api.TFuel, usualFuel)),
	}
	for at, n := range c.nodes {
		switch n.Kind {
		case api.NConst:
			s.Consts = append(s.Consts, api.Const{Name: n.Name, Value: c.consts[n.Name].value})
		case api.NKind:
			s.Kinds = append(s.Kinds, n.Name)
		case api.NType:
			s.Types = append(s.Types, c.makeType(at))
		}
	}
	// Types may stand behind their places, and places behind their starts.
	for at, n := range c.nodes {
		switch n.Kind {
		case api.NPlace:
			p := c.makePlace(at)
			s.Places = append(s.Places, p)
			s.Parts = append(s.Parts, c.makeParts(at, p.Type, s.Types[p.Type].First)...)
		case api.NStart:
			s.Starts = append(s.Starts, c.makeStarts(n)...)
		}
	}
	return s
}

func (c *checker) setting(op int, usual uint64) uint64 {
	if at := c.settings[op]; at != 0 {
		return c.nodes[at].Num
	}
	return usual
}

// number of what declares a global name, among all of its sort.
func (c *checker) number(name string) int { return c.numbers[c.globals[name]] }

func (c *checker) makeType(at int) api.Type {
	made := api.Type{Name: c.nodes[at].Name}
	for _, kid := range c.nodes[at].Kids {
		n := c.nodes[kid]
		if n.Kind == api.NOn {
			param := c.nodes[n.Kids[0]].Name
			made.Handlers = append(made.Handlers, api.Handler{Kind: c.number(n.Name), Param: param, Node: kid})
			continue
		}
		made.Vars = append(made.Vars, api.Var{Name: n.Name, At: c.firsts[kid], Size: c.sizes[kid]})
		for range c.width(kid) {
			made.First = append(made.First, c.firstValue(n))
		}
	}
	return made
}

// firstValue of a var: its value is its last kid, if its Op says that there is one.
func (c *checker) firstValue(n api.Node) int64 {
	if n.Op&2 == 0 {
		return 0
	}
	return c.values[n.Kids[len(n.Kids)-1]]
}

func (c *checker) makePlace(at int) api.Place {
	n := c.nodes[at]
	kind := c.nodes[n.Kids[n.Op]].Name
	return api.Place{Name: n.Name, Type: c.number(kind), At: c.firsts[at], Size: c.sizes[at]}
}

func (c *checker) makeParts(at, program int, first []int64) []api.Part {
	n := c.nodes[at]
	vars := c.vars[c.globals[c.nodes[n.Kids[n.Op]].Name]]
	parts := make([]api.Part, c.width(at))
	for i := range parts {
		words := slices.Clone(first)
		for _, kid := range n.Kids[n.Op+1:] {
			c.give(words, c.nodes[kid], vars)
		}
		parts[i] = api.Part{Program: program, Words: words}
	}
	return parts
}

func (c *checker) give(words []int64, n api.Node, vars map[string]int) {
	of := vars[n.Name]
	from, to := c.span(n, of)
	for i := from; i < to; i++ {
		words[c.firsts[of]+i] = c.values[n.Kids[n.Op]]
	}
}

func (c *checker) makeStarts(n api.Node) []api.Start {
	place := c.globals[c.nodes[n.Kids[1]].Name]
	starts := make([]api.Start, c.events(n, place))
	for i := range starts {
		starts[i] = api.Start{Time: n.Num, Dst: c.firsts[place] + i, Kind: c.number(n.Name), Data: c.values[n.Kids[0]]}
		if n.Op == 1 {
			starts[i].Dst += int(c.values[n.Kids[2]])
		}
	}
	return starts
}
