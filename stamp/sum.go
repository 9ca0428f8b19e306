package stamp

// polynomial is the check's divisor, its highest power in the lowest bit.
const polynomial = 0xEDB88320

// steps has for each byte what eight steps of the register, bit by bit, come to.
var steps [256]uint32

func init() {
	for i := range steps {
		steps[i] = eightSteps(uint32(i))
	}
}

func eightSteps(register uint32) uint32 {
	for range 8 {
		low := register & 1
		register >>= 1
		if low == 1 {
			register ^= polynomial
		}
	}
	return register
}

// Sum is the check sum of bytes.
func Sum(b []byte) uint32 {
	register := ^uint32(0)
	for _, c := range b {
		register = register>>8 ^ steps[byte(register)^c]
	}
	return ^register
}
