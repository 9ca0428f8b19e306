package horizon

import (
	"strconv"

	"horizon/api"
	"horizon/grammar"
	"horizon/kernel"
	"horizon/vm"
)

// The commands on models and layouts, and those that run them.

func (p *player) model(args) (answer, error) {
	if err := p.desk.Load(p.nextText()); err != nil {
		return nil, err
	}
	p.journal, p.written = nil, false
	s := p.desk.model.scene
	return answer{"ok parts " + strconv.Itoa(len(s.Parts)) + " kinds " + strconv.Itoa(len(s.Kinds)) + " types " + strconv.Itoa(len(s.Types))}, nil
}

func (p *player) print(args) (answer, error) {
	text, code := grammar.Print(p.desk.model.tree)
	if code != api.OK {
		return nil, code
	}
	return append(answer{"ok"}, linesOf(text)...), nil
}

func (p *player) listing(a args) (answer, error) {
	for i, t := range p.desk.model.scene.Types {
		if t.Name == a.names[0] {
			return append(answer{"ok"}, linesOf(vm.List(p.desk.model.plan.Programs[i]))...), nil
		}
	}
	return nil, api.ErrUnknown
}

func (p *player) spread(a args) (answer, error) {
	l, code := kernel.Spread(p.desk.model.plan, a.numbers[0], a.numbers[1])
	if code != api.OK {
		return nil, code
	}
	if err := p.desk.Lay(l); err != nil {
		return nil, err
	}
	return answer{numbered("ok owner", l.Owner)}, nil
}

func (p *player) layout(a args) (answer, error) {
	n := a.numbers
	if err := p.desk.Lay(api.Layout{Workers: n[0], Arena: n[1], Box: n[2], Undo: n[3], Owner: n[4:]}); err != nil {
		return nil, err
	}
	return answer{"ok"}, nil
}

func (p *player) run(a args) (answer, error) {
	// What the error says stands in the result, too.
	r, _ := p.desk.Run(modeOf(a.names[0]), a.numbers)
	return answer{"ok " + outcome(r)}, nil
}
