package vm

import (
	"horizon/api"
	"horizon/stamp"
)

const magic = "hzvm"

// The byte of an instruction: its Op in the lowest bits, and which of its numbers follow.
const (
	opBits = 63
	hasA   = 64
	hasB   = 128
)

// sumLength is how many bytes the sum has at the end.
const sumLength = 4

// Encode is a program's bytes.
func Encode(p api.Program) []byte {
	if !canBeWritten(p) {
		return nil
	}
	b := []byte(magic)
	b = appendNumber(b, uint64(p.Words))
	b = appendNumber(b, uint64(p.Locals))
	b = appendNumber(b, uint64(len(p.Entry)))
	for _, at := range p.Entry {
		b = appendNumber(b, uint64(at+1))
	}
	b = appendNumber(b, uint64(len(p.Code)))
	for _, in := range p.Code {
		b = appendInstr(b, in)
	}
	return append(b, sumBytes(b)...)
}

// Decode reads a program's bytes, all of them.
func Decode(b []byte) (api.Program, api.Errno) {
	var p api.Program
	var entries, count int
	r := reader{bytes: b}
	if !r.letters(magic) {
		goto wrong
	}
	if !r.upTo(api.MaxWords, &p.Words) || !r.upTo(api.MaxLocals, &p.Locals) || !r.upTo(api.MaxKinds, &entries) {
		goto wrong
	}
	for range entries {
		var next int
		if !r.upTo(api.MaxCode, &next) {
			goto wrong
		}
		p.Entry = append(p.Entry, next-1)
	}
	if !r.upTo(api.MaxCode, &count) {
		goto wrong
	}
	for range count {
		var in api.Instr
		if !r.instr(&in) {
			goto wrong
		}
		p.Code = append(p.Code, in)
	}
	if !r.sum() {
		goto wrong
	}
	return p, api.OK
wrong:
	return api.Program{}, r.err
}

// canBeWritten asks less than Verify: any numbers may stand in A and B, and any places in Entry.
func canBeWritten(p api.Program) bool {
	if !sized(p) {
		return false
	}
	for _, at := range p.Entry {
		if at < passedOver || at >= api.MaxCode {
			return false
		}
	}
	for _, in := range p.Code {
		if !isOp(in.Op) {
			return false
		}
	}
	return true
}

func appendInstr(b []byte, in api.Instr) []byte {
	first := byte(in.Op)
	if in.A != 0 {
		first |= hasA
	}
	if in.B != 0 {
		first |= hasB
	}
	b = append(b, first)
	if in.A != 0 {
		b = appendSigned(b, in.A)
	}
	if in.B != 0 {
		b = appendSigned(b, in.B)
	}
	return b
}

func appendNumber(b []byte, n uint64) []byte {
	for n >= 128 {
		b = append(b, byte(n)|128)
		n >>= 7
	}
	return append(b, byte(n))
}

// The sign goes to the lowest bit, so that numbers near 0 are short on both sides.
func appendSigned(b []byte, i int64) []byte {
	n := uint64(i) << 1
	if i < 0 {
		n = ^n
	}
	return appendNumber(b, n)
}

func sumBytes(b []byte) []byte {
	s := stamp.Sum(b)
	return []byte{byte(s >> 24), byte(s >> 16), byte(s >> 8), byte(s)}
}
