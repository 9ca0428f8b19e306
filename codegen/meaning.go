package codegen

import "horizon/api"

// meaning of a name: the instruction that lays its value on the stack, and the one that takes a value from there.
// A row's instructions want its index on the stack, under the value.
type meaning interface {
	read() api.Instr
	set() api.Instr
}

// named is a meaning and the name that bears it.
type named struct {
	name string
	what meaning
}

// fixed is what cannot be set. Layer 5 refuses every text that tries to, so the value that nobody wants is never there.
type fixed struct{}

func (fixed) set() api.Instr { return api.Instr{Op: api.IPop} }

// local of a handler, by its number.
type local int

func (l local) read() api.Instr { return api.Instr{Op: api.IGet, A: int64(l)} }
func (l local) set() api.Instr  { return api.Instr{Op: api.IPut, A: int64(l)} }

// data is the handler's own word in brackets.
type data struct{ fixed }

func (data) read() api.Instr { return api.Instr{Op: api.IData} }

// word of the state, by its number.
type word int

func (w word) read() api.Instr { return api.Instr{Op: api.ILoad, A: int64(w)} }
func (w word) set() api.Instr  { return api.Instr{Op: api.ISave, A: int64(w)} }

// wordRow is a row of words from its first one on.
type wordRow struct{ at, size int }

func (r wordRow) read() api.Instr {
	return api.Instr{Op: api.ILoadX, A: int64(r.at), B: int64(r.size)}
}

func (r wordRow) set() api.Instr {
	return api.Instr{Op: api.ISaveX, A: int64(r.at), B: int64(r.size)}
}

// constant has a value that the whole text knows.
type constant struct {
	fixed
	value int64
}

func (c constant) read() api.Instr { return api.Instr{Op: api.IPush, A: c.value} }

// part of the model, by its number.
type part struct {
	fixed
	number int
}

func (p part) read() api.Instr { return api.Instr{Op: api.IPush, A: int64(p.number)} }

// partRow is a row of parts from its first one on.
type partRow struct {
	fixed
	at, size int
}

func (r partRow) read() api.Instr {
	return api.Instr{Op: api.IRow, A: int64(r.at), B: int64(r.size)}
}

func isRow(m meaning) bool {
	switch m.(type) {
	case wordRow, partRow:
		return true
	}
	return false
}

// outside is what a type's handlers know, the nearest name last.
func outside(s api.Scene, vars []api.Var) []named {
	var list []named
	for _, p := range s.Places {
		list = append(list, named{p.Name, placeMeaning(p)})
	}
	for _, c := range s.Consts {
		list = append(list, named{c.Name, constant{value: c.Value}})
	}
	for _, v := range vars {
		list = append(list, named{v.Name, varMeaning(v)})
	}
	return list
}

func placeMeaning(p api.Place) meaning {
	if p.Size == 0 {
		return part{number: p.At}
	}
	return partRow{at: p.At, size: p.Size}
}

func varMeaning(v api.Var) meaning {
	if v.Size == 0 {
		return word(v.At)
	}
	return wordRow{v.At, v.Size}
}
