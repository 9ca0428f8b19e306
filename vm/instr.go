package vm

import "horizon/api"

// checkInstr takes the program to be sized, with an entry for each kind.
func checkInstr(p api.Program, in api.Instr) api.Errno {
	if !isOp(in.Op) {
		return api.ErrOp
	}
	width, most := 1, room(p, in.Op)
	if wants(in.Op) == 2 {
		if in.B < 1 || in.B > int64(most) {
			return api.ErrArg
		}
		width = int(in.B)
	} else if in.B != 0 {
		return api.ErrArg
	}
	if in.Op == api.IPush || in.A >= 0 && in.A <= int64(most-width) {
		return api.OK
	}
	if jumps(in.Op) {
		return api.ErrJump
	}
	return api.ErrArg
}

func isOp(op int) bool { return op >= 0 && op < api.NumOps }

// room is how many there are of what an instruction's A is the number of. Where it is no number of anything there is room for 0 alone.
func room(p api.Program, op int) int {
	switch op {
	case api.ILoad, api.ISave, api.ILoadX, api.ISaveX:
		return p.Words
	case api.IGet, api.IPut:
		return p.Locals
	case api.IJump, api.IZero:
		return len(p.Code)
	case api.IRow:
		return api.MaxParts
	case api.ISend:
		return len(p.Entry)
	}
	return 1
}

// wants is how many numbers an instruction has a use for.
func wants(op int) int {
	switch op {
	case api.ILoadX, api.ISaveX, api.IRow:
		return 2
	case api.IPush, api.ILoad, api.ISave, api.IGet, api.IPut, api.IJump, api.IZero, api.ISend:
		return 1
	}
	return 0
}

func jumps(op int) bool { return op == api.IJump || op == api.IZero }

func endsRow(op int) bool { return op == api.IStop || op == api.IJump || op == api.IFail }

// moves is how many values an instruction takes from the stack, and how many it then lays on it.
func moves(op int) (pops, pushes int) {
	switch op {
	case api.IStop, api.IJump:
		return 0, 0
	case api.IPush, api.ILoad, api.IGet, api.IData, api.INow, api.IMe, api.IFrom:
		return 0, 1
	case api.IPop, api.ISave, api.IPut, api.IZero, api.IFail:
		return 1, 0
	case api.ILoadX, api.INeg, api.INot, api.IFlip, api.IBool, api.IRoll, api.IWait, api.IRow:
		return 1, 1
	case api.ISaveX:
		return 2, 0
	case api.ISend:
		return 3, 0
	}
	return 2, 1
}
