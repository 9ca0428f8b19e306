package seqrun

import (
	"slices"

	"horizon/api"
	"horizon/dice"
	"horizon/stamp"
	"horizon/vm"
)

// mostSent leaves room above it for all that a run can send: no count of Sent wraps round.
const mostSent = 1 << 62

// isIn tells whether n is a number of one of count things, which are numbered from 0 on.
func isIn(n, count int) bool { return n >= 0 && n < count }

func programsFit(p api.Plan) bool {
	if len(p.Programs) > api.MaxTypes {
		return false
	}
	for _, g := range p.Programs {
		if vm.Verify(g, p.Kinds) != api.OK {
			return false
		}
	}
	return true
}

func partsFit(p api.Plan) bool {
	if len(p.Parts) > api.MaxParts {
		return false
	}
	for _, part := range p.Parts {
		if !isIn(part.Program, len(p.Programs)) || len(part.Words) != p.Programs[part.Program].Words {
			return false
		}
	}
	return true
}

func startsFit(p api.Plan) bool {
	if len(p.Starts) > api.MaxStarts {
		return false
	}
	for _, start := range p.Starts {
		if !isIn(start.Dst, len(p.Parts)) || !isIn(start.Kind, p.Kinds) {
			return false
		}
	}
	return true
}

// pointFits tells whether a run of a valid plan may go on from a point.
func pointFits(p api.Plan, at api.Point) bool {
	if !statesFit(p, at.States) || !stamp.Rising(at.Pending) || len(at.Trace) > p.Budget {
		return false
	}
	for _, e := range at.Pending {
		if !isIn(e.Dst, len(p.Parts)) || !isIn(e.Kind, p.Kinds) || !isIn(e.Key.Src, len(p.Parts)) {
			return false
		}
		if e.Key.Seq >= at.States[e.Key.Src].Sent {
			return false
		}
	}
	return true
}

func statesFit(p api.Plan, states []api.State) bool {
	if len(states) != len(p.Parts) {
		return false
	}
	for i, v := range states {
		if len(v.Words) != len(p.Parts[i].Words) || v.Sent > mostSent {
			return false
		}
	}
	return true
}

// firstPoint is the point at which the run of a valid plan begins. Each start is sent by the part to which it happens.
func firstPoint(p api.Plan) api.Point {
	states := make([]api.State, len(p.Parts))
	for i, part := range p.Parts {
		states[i] = api.State{Words: slices.Clone(part.Words), Dice: dice.Seed(p.Seed, i)}
	}
	pending := make([]api.Event, len(p.Starts))
	for i, start := range p.Starts {
		key := api.Key{Time: start.Time, Src: start.Dst, Seq: states[start.Dst].Sent}
		pending[i] = api.Event{Key: key, Dst: start.Dst, Kind: start.Kind, Data: start.Data}
		states[start.Dst].Sent++
	}
	return api.Point{States: states, Pending: stamp.Order(pending)}
}

// copiedPlan is a plan whose lists are memory of its own.
func copiedPlan(p api.Plan) api.Plan {
	p.Programs = copiedPrograms(p.Programs)
	p.Parts = slices.Clone(p.Parts)
	for i, part := range p.Parts {
		p.Parts[i].Words = slices.Clone(part.Words)
	}
	p.Starts = slices.Clone(p.Starts)
	return p
}

func copiedPrograms(programs []api.Program) []api.Program {
	l := slices.Clone(programs)
	for i, g := range l {
		l[i].Code, l[i].Entry = slices.Clone(g.Code), slices.Clone(g.Entry)
	}
	return l
}

// programsOfParts is each part's program, in memory of their own; parts of one program share it, for nobody writes into it.
func programsOfParts(p api.Plan) []api.Program {
	all := copiedPrograms(p.Programs)
	l := make([]api.Program, len(p.Parts))
	for i, part := range p.Parts {
		l[i] = all[part.Program]
	}
	return l
}

func copiedStates(states []api.State) []api.State {
	l := slices.Clone(states)
	for i, v := range l {
		l[i].Words = slices.Clone(v.Words)
	}
	return l
}
