package journal

import "horizon/api"

// The bytes of single numbers stand here once more, because stamp writes and reads whole events alone.

// lastByte is the place of the byte that holds the 64th bit of a number: nothing above that one bit fits into it.
const lastByte = 9

func appendNumbers(b []byte, list ...uint64) []byte {
	for _, n := range list {
		for n >= 128 {
			b = append(b, byte(n)|128)
			n >>= 7
		}
		b = append(b, byte(n))
	}
	return b
}

// The sign goes to the lowest bit, so that numbers near 0 are short on both sides.
func appendSigned[T int | int64](b []byte, list ...T) []byte {
	for _, i := range list {
		n := uint64(i) << 1
		if i < 0 {
			n = ^n
		}
		b = appendNumbers(b, n)
	}
	return b
}

func appendProgram(b []byte, g api.Program) []byte {
	b = appendSigned(b, g.Words, g.Locals, len(g.Code))
	for _, in := range g.Code {
		b = appendSigned(b, in.Op)
		b = appendSigned(b, in.A, in.B)
	}
	b = appendSigned(b, len(g.Entry))
	return appendSigned(b, g.Entry...)
}

// appendWord writes 32 bits, the lowest first.
func appendWord(b []byte, n uint32) []byte {
	return append(b, byte(n), byte(n>>8), byte(n>>16), byte(n>>24))
}

// wordAt reads 32 bits from the front of bytes that are there.
func wordAt(b []byte) uint32 {
	return uint32(b[0]) | uint32(b[1])<<8 | uint32(b[2])<<16 | uint32(b[3])<<24
}
