package horizon

import (
	"strconv"
	"strings"

	"horizon/api"
	"horizon/report"
	"horizon/scope"
	"horizon/stamp"
)

// The commands on the last result.

func (p *player) trace(args) (answer, error) {
	var lines []string
	for _, e := range p.desk.last.Trace {
		lines = append(lines, stamp.Text(e))
	}
	return counted(lines), nil
}

func (p *player) state(a args) (answer, error) {
	at := -1
	if len(a.numbers) > 0 {
		at = a.numbers[0]
	}
	scene := p.desk.model.scene
	part, code := scope.Part(scene, a.names[0], at)
	if code != api.OK {
		return nil, code
	}
	line := "ok"
	for _, v := range scene.Types[scene.Parts[part].Program].Vars {
		line += " " + v.Name + "=" + wordsIn(v, p.desk.last.States[part])
	}
	return answer{line}, nil
}

// wordsIn is a var's words in a state, with commas between.
func wordsIn(v api.Var, s api.State) string {
	var words []string
	for _, w := range s.Words[v.At : v.At+max(1, v.Size)] {
		words = append(words, strconv.FormatInt(w, 10))
	}
	return strings.Join(words, ",")
}

func (p *player) tally(args) (answer, error) {
	var lines []string
	for _, t := range report.Tallies(*p.desk.last) {
		lines = append(lines, p.partName(t.Part)+" events "+strconv.Itoa(t.Events)+" sent "+strconv.Itoa(t.Sent)+
			" first "+strconv.FormatUint(t.First, 10)+" last "+strconv.FormatUint(t.Last, 10))
	}
	return counted(lines), nil
}

// partName is a part's name; a number that is no part's, which a spoilt journal may bring, stands for itself.
func (p *player) partName(part int) string {
	name, code := scope.Title(p.desk.model.scene, part)
	if code != api.OK {
		return strconv.Itoa(part)
	}
	return name
}

func (p *player) kinds(args) (answer, error) {
	var lines []string
	for _, k := range report.Kinds(*p.desk.last) {
		lines = append(lines, p.kindName(k.Kind)+" "+strconv.Itoa(k.Events))
	}
	return counted(lines), nil
}

// kindName is a kind's name; a number that is no kind's stands for itself.
func (p *player) kindName(kind int) string {
	names := p.desk.model.scene.Kinds
	if kind < 0 || kind >= len(names) {
		return strconv.Itoa(kind)
	}
	return names[kind]
}

func (p *player) histogram(a args) (answer, error) {
	width := a.numbers[0]
	if width < 0 {
		return nil, api.ErrArgs
	}
	buckets, code := report.Histogram(*p.desk.last, uint64(width))
	if code != api.OK {
		return nil, code
	}
	var lines []string
	for _, b := range buckets {
		lines = append(lines, strconv.FormatUint(b.From, 10)+" "+strconv.Itoa(b.Events))
	}
	return counted(lines), nil
}

func (p *player) chain(args) (answer, error) {
	last := *p.desk.last
	places, code := report.Chain(p.desk.model.plan, last)
	if code != api.OK {
		return nil, code
	}
	var lines []string
	for _, i := range places {
		lines = append(lines, strconv.Itoa(i)+" "+stamp.Text(last.Trace[i]))
	}
	return counted(lines), nil
}

func (p *player) balance(args) (answer, error) {
	shares, code := report.Balance(p.desk.spread(), *p.desk.last)
	if code != api.OK {
		return nil, code
	}
	return answer{numbered("ok", shares)}, nil
}
