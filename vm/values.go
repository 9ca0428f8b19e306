package vm

import "horizon/api"

// pair is an instruction with two values: what it makes of them, or its fault.
type pair struct {
	value func(a, b int64) (int64, api.Errno)
}

// pairs has each of them at its number.
func pairs() [api.NumOps]pair {
	return [api.NumOps]pair{
		api.IAdd: {func(a, b int64) (int64, api.Errno) { return a + b, api.OK }},
		api.ISub: {func(a, b int64) (int64, api.Errno) { return a - b, api.OK }},
		api.IMul: {func(a, b int64) (int64, api.Errno) { return a * b, api.OK }},
		api.IDiv: {quotient},
		api.IMod: {remainder},
		api.IAnd: {func(a, b int64) (int64, api.Errno) { return a & b, api.OK }},
		api.IOr:  {func(a, b int64) (int64, api.Errno) { return a | b, api.OK }},
		api.IXor: {func(a, b int64) (int64, api.Errno) { return a ^ b, api.OK }},
		api.IShl: {shiftedLeft},
		api.IShr: {shiftedRight},
		api.IEq:  {func(a, b int64) (int64, api.Errno) { return truth(a == b), api.OK }},
		api.INe:  {func(a, b int64) (int64, api.Errno) { return truth(a != b), api.OK }},
		api.ILt:  {func(a, b int64) (int64, api.Errno) { return truth(a < b), api.OK }},
		api.ILe:  {func(a, b int64) (int64, api.Errno) { return truth(a <= b), api.OK }},
		api.IGt:  {func(a, b int64) (int64, api.Errno) { return truth(a > b), api.OK }},
		api.IGe:  {func(a, b int64) (int64, api.Errno) { return truth(a >= b), api.OK }},
		api.IMin: {func(a, b int64) (int64, api.Errno) { return min(a, b), api.OK }},
		api.IMax: {func(a, b int64) (int64, api.Errno) { return max(a, b), api.OK }},
	}
}

func quotient(a, b int64) (int64, api.Errno) {
	if b == 0 {
		return 0, api.FaultDivide
	}
	return a / b, api.OK
}

func remainder(a, b int64) (int64, api.Errno) {
	if b == 0 {
		return 0, api.FaultDivide
	}
	return a % b, api.OK
}

func shiftedLeft(a, b int64) (int64, api.Errno) {
	if b < 0 {
		return 0, api.FaultShift
	}
	return a << b, api.OK
}

func shiftedRight(a, b int64) (int64, api.Errno) {
	if b < 0 {
		return 0, api.FaultShift
	}
	return a >> b, api.OK
}

// single is what an instruction with one value makes of it.
func single(op int, a int64) int64 {
	switch op {
	case api.INeg:
		return -a
	case api.IFlip:
		return ^a
	case api.INot:
		return truth(a == 0)
	}
	return truth(a != 0)
}

func truth(yes bool) int64 {
	if yes {
		return 1
	}
	return 0
}
