package vm

import (
	"strconv"

	"horizon/api"
)

var names = [...]string{
	api.IStop: "stop", api.IPush: "push", api.IPop: "pop", api.ILoad: "load",
	api.ISave: "save", api.ILoadX: "loadx", api.ISaveX: "savex", api.IGet: "get",
	api.IPut: "put", api.IData: "data", api.INow: "now", api.IMe: "me",
	api.IFrom: "from", api.IAdd: "add", api.ISub: "sub", api.IMul: "mul",
	api.IDiv: "div", api.IMod: "mod", api.IAnd: "and", api.IOr: "or",
	api.IXor: "xor", api.IShl: "shl", api.IShr: "shr", api.INeg: "neg",
	api.INot: "not", api.IFlip: "flip", api.IEq: "eq", api.INe: "ne",
	api.ILt: "lt", api.ILe: "le", api.IGt: "gt", api.IGe: "ge",
	api.IMin: "min", api.IMax: "max", api.IBool: "bool", api.IJump: "jump",
	api.IZero: "zero", api.IRoll: "roll", api.IRow: "row", api.ISend: "send",
	api.IFail: "fail", api.IWait: "wait",
}

// The heads of a listing that are no instruction's.
const (
	headWords  = "words"
	headLocals = "locals"
	headEntry  = "entry"
)

// noEntry stands in a listing for passedOver.
const noEntry = "-"

// List is a program's listing.
func List(p api.Program) string {
	if !canBeWritten(p) {
		return ""
	}
	var b []byte
	b = appendLine(b, headWords, int64(p.Words))
	b = appendLine(b, headLocals, int64(p.Locals))
	b = appendEntries(b, p.Entry)
	for _, in := range p.Code {
		numbers := []int64{in.A, in.B}
		b = appendLine(b, names[in.Op], numbers[:told(in)]...)
	}
	return string(b)
}

// told is how many of an instruction's numbers a listing tells: those that it wants, and no other that is not 0 gets lost.
func told(in api.Instr) int {
	switch {
	case in.B != 0:
		return 2
	case in.A != 0:
		return max(1, wants(in.Op))
	}
	return wants(in.Op)
}

func appendLine(b []byte, head string, numbers ...int64) []byte {
	b = append(b, head...)
	for _, n := range numbers {
		b = append(b, ' ')
		b = strconv.AppendInt(b, n, 10)
	}
	return append(b, '\n')
}

func appendEntries(b []byte, entries []int) []byte {
	b = append(b, headEntry...)
	for _, at := range entries {
		b = append(b, ' ')
		if at == passedOver {
			b = append(b, noEntry...)
		} else {
			b = strconv.AppendInt(b, int64(at), 10)
		}
	}
	return append(b, '\n')
}
