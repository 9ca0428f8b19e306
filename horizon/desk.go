package horizon

import (
	"horizon/api"
	"horizon/codegen"
	"horizon/crew"
	"horizon/grammar"
	"horizon/journal"
	"horizon/kernel"
	"horizon/scope"
	"horizon/seqrun"
	"horizon/warp"
)

// model is what a scenario's text says; the text itself is not asked for again.
type model struct {
	tree  api.Tree
	scene api.Scene
	plan  api.Plan
}

func modelOf(src string) (*model, error) {
	plan, err := codegen.Plan(src)
	if err != nil {
		return nil, err
	}
	if code := seqrun.Valid(plan); code != api.OK {
		return nil, code
	}
	// A text that has a plan has a tree and a scene.
	tree, _ := grammar.Parse(src)
	scene, _ := scope.Check(tree)
	return &model{tree, scene, plan}, nil
}

// spread is the layout that was laid; while there is none, one worker has it all.
func (d *Desk) spread() api.Layout {
	if d.layout != nil {
		return *d.layout
	}
	l, _ := kernel.Spread(d.model.plan, 1, 1)
	return l
}

// runIn is a run in one of the modes; in no other is there any.
func runIn(mode int, plan api.Plan, l api.Layout, picks []int) (api.Result, error) {
	switch mode {
	case api.ModeSeq:
		r := seqrun.Run(plan)
		return r, kernel.Err(r)
	case api.ModeKernel:
		return kernel.Run(plan, l, picks)
	case api.ModeFair:
		return kernel.Fair(plan, l, kernel.Enough(plan, l))
	case api.ModeCrew:
		return crew.Run(plan, l)
	case api.ModeWarp:
		return warp.Fair(plan, l, warp.Enough(plan, l))
	}
	return api.Result{}, api.ErrArgs
}

// resume is Restore, with the journal to which the run went on.
func (d *Desk) resume(every int, b []byte) ([]byte, api.Result, error) {
	if d.model == nil {
		return nil, api.Result{}, api.ErrNoModel
	}
	whole, r, err := journal.Resume(d.model.plan, every, b)
	d.keep(r)
	return whole, r, err
}

// keep makes a result the last one, if it is one.
func (d *Desk) keep(r api.Result) {
	if r.Kind == 0 {
		return
	}
	r = resultApart(r)
	d.last = &r
}
