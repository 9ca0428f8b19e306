package horizon

import (
	"slices"

	"horizon/api"
)

// What the desk keeps is apart from what others hold: it goes in and out as a copy, down to the last list.

func planApart(p api.Plan) api.Plan {
	p.Programs, p.Parts, p.Starts = slices.Clone(p.Programs), slices.Clone(p.Parts), slices.Clone(p.Starts)
	for i, g := range p.Programs {
		p.Programs[i].Code, p.Programs[i].Entry = slices.Clone(g.Code), slices.Clone(g.Entry)
	}
	for i, part := range p.Parts {
		p.Parts[i].Words = slices.Clone(part.Words)
	}
	return p
}

func layoutApart(l api.Layout) api.Layout {
	l.Owner = slices.Clone(l.Owner)
	return l
}

func resultApart(r api.Result) api.Result {
	r.States, r.Trace = slices.Clone(r.States), slices.Clone(r.Trace)
	for i, s := range r.States {
		r.States[i].Words = slices.Clone(s.Words)
	}
	return r
}
