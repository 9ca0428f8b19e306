package vm_test

import (
	"bytes"
	"math"
	"math/big"
	"slices"
	"testing"

	"horizon/api"
	"horizon/stamp"
	"horizon/vm"
)

// laidOut is a true number seven bits a byte, the lowest ones first.
func laidOut(n *big.Int) []byte {
	var b []byte
	n = new(big.Int).Set(n)
	for rest := new(big.Int); ; {
		n.DivMod(n, big.NewInt(128), rest)
		if n.Sign() == 0 {
			return append(b, byte(rest.Int64()))
		}
		b = append(b, byte(rest.Int64()+128))
	}
}

func unsigned(n int) []byte { return laidOut(big.NewInt(int64(n))) }

// signed is 2i, or -2i - 1 for those below 0.
func signed(i int64) []byte {
	n := new(big.Int).Mul(big.NewInt(i), big.NewInt(2))
	if i < 0 {
		n.Neg(n).Sub(n, big.NewInt(1))
	}
	return laidOut(n)
}

// sealed is bytes with their sum behind them.
func sealed(b []byte) []byte {
	s := big.NewInt(int64(stamp.Sum(b)))
	return append(slices.Clone(b), s.FillBytes(make([]byte, 4))...)
}

// written is 6.5.
func written(p api.Program) []byte {
	b := []byte{'h', 'z', 'v', 'm'}
	b = append(b, unsigned(p.Words)...)
	b = append(b, unsigned(p.Locals)...)
	b = append(b, unsigned(len(p.Entry))...)
	for _, at := range p.Entry {
		b = append(b, unsigned(at+1)...)
	}
	b = append(b, unsigned(len(p.Code))...)
	for _, in := range p.Code {
		first, numbers := in.Op, []byte(nil)
		if in.A != 0 {
			first += 64
			numbers = append(numbers, signed(in.A)...)
		}
		if in.B != 0 {
			first += 128
			numbers = append(numbers, signed(in.B)...)
		}
		b = append(append(b, byte(first)), numbers...)
	}
	return sealed(b)
}

// page is bytes that are read from the front; what is wrong ends the reading by a panic with its Errno.
type page struct {
	rest []byte
	read []byte
}

func (g *page) next() int {
	if len(g.rest) == 0 {
		panic(api.ErrShort)
	}
	c := g.rest[0]
	g.rest, g.read = g.rest[1:], append(g.read, c)
	return int(c)
}

func need(right bool, code api.Errno) {
	if !right {
		panic(code)
	}
}

// number is 1.7, as a true number.
func (g *page) number() *big.Int {
	n := new(big.Int)
	for k := uint(0); ; k++ {
		c := g.next()
		need(k != 9 || c <= 1, api.ErrForm)
		need(k == 0 || c != 0, api.ErrForm)
		n.Add(n, new(big.Int).Lsh(big.NewInt(int64(c%128)), 7*k))
		if c < 128 {
			return n
		}
	}
}

func (g *page) atMost(most int64) int {
	n := g.number()
	need(n.Cmp(big.NewInt(most)) <= 0, api.ErrForm)
	return int(n.Int64())
}

func (g *page) announced() int64 {
	n := g.number()
	need(n.Sign() != 0, api.ErrForm)
	if n.Bit(0) == 1 {
		n.Add(n, big.NewInt(1)).Neg(n)
	}
	return n.Quo(n, big.NewInt(2)).Int64()
}

// understood is 6.6.
func understood(b []byte) (p api.Program, code api.Errno) {
	defer func() {
		if r := recover(); r != nil {
			p, code = api.Program{}, r.(api.Errno)
		}
	}()
	g := &page{rest: b}
	for _, c := range "hzvm" {
		need(g.next() == int(c), api.ErrForm)
	}
	p.Words = g.atMost(64)
	p.Locals = g.atMost(32)
	for range g.atMost(32) {
		p.Entry = append(p.Entry, g.atMost(4096)-1)
	}
	for range g.atMost(4096) {
		first := g.next()
		in := api.Instr{Op: first % 64}
		need(in.Op < 42, api.ErrOp)
		if first/64%2 == 1 {
			in.A = g.announced()
		}
		if first/128 == 1 {
			in.B = g.announced()
		}
		p.Code = append(p.Code, in)
	}
	need(len(g.rest) >= 4, api.ErrShort)
	need(len(g.rest) <= 4, api.ErrForm)
	need(bytes.Equal(sealed(g.read)[len(g.read):], g.rest), api.ErrSum)
	return p, api.OK
}

func checkDecode(t *testing.T, b []byte, want api.Program, code api.Errno) {
	t.Helper()
	if code != api.OK {
		want = api.Program{}
	}
	if got, e := vm.Decode(b); e != code || !sameProgram(got, want) {
		t.Errorf("Decode(% x) = %s, %d, not %s, %d", b, few(got), e, few(want), code)
	}
}

// checkWritten holds Encode and Decode of a program that can be written against one another and against the chapter.
func checkWritten(t *testing.T, p api.Program) {
	t.Helper()
	want := written(p)
	if got := vm.Encode(p); !bytes.Equal(got, want) {
		t.Errorf("Encode(%s) = % x, not % x", few(p), got, want)
	}
	checkDecode(t, want, p, api.OK)
}

// 6.5, 6.6: the chapter's example 8.
func TestBytesExamples(t *testing.T) {
	none := []byte{0x68, 0x7a, 0x76, 0x6d, 0, 0, 0, 0}
	s := stamp.Sum(none)
	none = append(none, byte(s>>24), byte(s>>16), byte(s>>8), byte(s))
	if got := vm.Encode(api.Program{}); !bytes.Equal(got, none) {
		t.Errorf("Encode of nothing: % x", got)
	}
	checkDecode(t, none, api.Program{}, api.OK)
	checkDecode(t, []byte("hz"), api.Program{}, api.ErrShort)
	checkDecode(t, []byte("hzvn"), api.Program{}, api.ErrForm)
	checkDecode(t, []byte("hzvm\x41"), api.Program{}, api.ErrForm)
	// The program P: two entries as 1 and 0; the numbers 7 and 1 are 14 and 2, with sign.
	checkWritten(t, adder(t))
	want := sealed(append([]byte("hzvm"), 1, 1, 2, 1, 0, 9, 3, 9, 13, 4, 64+1, 14, 11, 9, 64+39, 2, 0))
	if got := vm.Encode(adder(t)); !bytes.Equal(got, want) {
		t.Errorf("Encode(P) = % x, not % x", got, want)
	}
}

// 6.5: no other program has bytes.
func TestEncodeRefuses(t *testing.T) {
	for _, p := range unwritable() {
		if b := vm.Encode(p); len(b) != 0 {
			t.Errorf("Encode(%s) = % x", few(p), b)
		}
	}
}

// 6.5, 6.6, 6.7: programs at every limit.
func TestBytesLimits(t *testing.T) {
	checkWritten(t, largest())
	for _, p := range []api.Program{
		{Words: 64}, {Locals: 32}, {Entry: make([]int, 32)}, {Entry: []int{-1}}, {Entry: []int{4095}}, {Entry: []int{126, 127, 128}}, {Code: make([]api.Instr, 4096)}, {Code: make([]api.Instr, 127)}, {Code: make([]api.Instr, 128)},
	} {
		checkWritten(t, p)
	}
	for op := range api.NumOps {
		for _, n := range edges() {
			checkWritten(t, api.Program{Code: []api.Instr{{Op: op, A: n}, {Op: op, B: n}, {Op: op, A: n, B: -n}}})
		}
	}
	// Ten bytes, of which the last one is 1.
	for i, n := range []int64{math.MinInt64, math.MaxInt64} {
		b := vm.Encode(api.Program{Code: []api.Instr{{A: n}}})
		want := append(bytes.Repeat([]byte{255}, 9), 1)
		want[0] -= byte(i)
		if !bytes.Equal(b[9:len(b)-4], want) {
			t.Errorf("%d: % x", n, b)
		}
	}
}

// 6.6: each thing that may be wrong, at its limit and one past it. What stands behind the first wrong thing is not looked at.
func TestDecodeRefuses(t *testing.T) {
	many := slices.Repeat([]byte{255}, 8)
	for _, c := range []struct {
		b    []byte // behind the four letters
		seal bool
		want api.Errno
	}{
		{[]byte{}, false, api.ErrShort},
		{[]byte{64}, false, api.ErrShort}, {[]byte{65}, false, api.ErrForm}, {[]byte{128}, false, api.ErrShort}, {[]byte{128, 0}, false, api.ErrForm}, {[]byte{192, 0}, false, api.ErrForm}, {[]byte{193, 0}, false, api.ErrForm}, {[]byte{192, 1}, false, api.ErrForm},
		{append(slices.Clone(many), 255, 1), false, api.ErrForm}, {append(slices.Clone(many), 255, 2), false, api.ErrForm}, {append(slices.Clone(many), 255), false, api.ErrShort}, {append(slices.Clone(many), 255, 128), false, api.ErrForm}, {append(slices.Clone(many), 255, 129), false, api.ErrForm},
		{[]byte{0}, false, api.ErrShort}, {[]byte{0, 32}, false, api.ErrShort}, {[]byte{0, 33}, false, api.ErrForm}, {[]byte{0, 128, 0}, false, api.ErrForm},
		{[]byte{0, 0}, false, api.ErrShort}, {[]byte{0, 0, 32}, false, api.ErrShort}, {[]byte{0, 0, 33}, false, api.ErrForm}, {[]byte{0, 0, 128}, false, api.ErrShort},
		{[]byte{0, 0, 1}, false, api.ErrShort}, {[]byte{0, 0, 1, 128, 32}, false, api.ErrShort}, {[]byte{0, 0, 1, 129, 32}, false, api.ErrForm}, {[]byte{0, 0, 2, 0, 129, 32}, false, api.ErrForm}, {[]byte{0, 0, 1, 129, 0}, false, api.ErrForm},
		{[]byte{0, 0, 1, 0}, false, api.ErrShort}, {[]byte{0, 0, 0, 128, 32}, false, api.ErrShort}, {[]byte{0, 0, 0, 129, 32}, false, api.ErrForm}, {[]byte{0, 0, 0, 129}, false, api.ErrShort},
		{[]byte{0, 0, 0, 1}, false, api.ErrShort}, {[]byte{0, 0, 0, 1, 41}, false, api.ErrShort}, {[]byte{0, 0, 0, 1, 42}, false, api.ErrOp}, {[]byte{0, 0, 0, 1, 63}, false, api.ErrOp}, {[]byte{0, 0, 0, 1, 42 + 64}, false, api.ErrOp}, {[]byte{0, 0, 0, 1, 42 + 128}, false, api.ErrOp}, {[]byte{0, 0, 0, 1, 255}, false, api.ErrOp}, {[]byte{0, 0, 0, 2, 0, 42}, false, api.ErrOp},
		{[]byte{0, 0, 0, 1, 64}, false, api.ErrShort}, {[]byte{0, 0, 0, 1, 64, 0}, false, api.ErrForm}, {[]byte{0, 0, 0, 1, 64, 128}, false, api.ErrShort}, {[]byte{0, 0, 0, 1, 64, 128, 0}, false, api.ErrForm}, {[]byte{0, 0, 0, 1, 128}, false, api.ErrShort}, {[]byte{0, 0, 0, 1, 128, 0}, false, api.ErrForm},
		{[]byte{0, 0, 0, 1, 192, 0}, false, api.ErrForm}, {[]byte{0, 0, 0, 1, 192, 1}, false, api.ErrShort}, {[]byte{0, 0, 0, 1, 192, 1, 0}, false, api.ErrForm}, {[]byte{0, 0, 0, 1, 192, 1, 128}, false, api.ErrShort},
		{append(append([]byte{0, 0, 0, 1, 64}, many...), 255, 2), false, api.ErrForm}, {append(append([]byte{0, 0, 0, 1, 128}, many...), 255, 0), false, api.ErrForm},
		{[]byte{0, 0, 0, 0}, false, api.ErrShort}, {[]byte{0, 0, 0, 0, 1, 2, 3}, false, api.ErrShort}, {[]byte{0, 0, 0, 0, 1, 2, 3, 4}, false, api.ErrSum}, {[]byte{0, 0, 0, 0, 1, 2, 3, 4, 5}, false, api.ErrForm}, {[]byte{0, 0, 0, 0, 1}, true, api.ErrForm}, {[]byte{0, 0, 0}, true, -1},
		{[]byte{0, 0, 0, 1, 64, 1}, true, api.OK}, {[]byte{0, 0, 0, 1, 128, 1}, true, api.OK}, {[]byte{0, 0, 0, 1, 192, 1, 1}, true, api.OK},
		{append(append([]byte{0, 0, 0, 1, 64}, many...), 255, 1), true, api.OK},
	} {
		b := append([]byte("hzvm"), c.b...)
		if c.seal {
			b = sealed(b)
		}
		p, code := understood(b)
		if c.want >= 0 && code != c.want {
			t.Fatalf("the chapter read slowly: % x: %d, not %d", b, code, c.want)
		}
		checkDecode(t, b, p, code)
	}
	for i := range 4 {
		checkDecode(t, []byte("hzvm")[:i], api.Program{}, api.ErrShort)
		b := vm.Encode(adder(t))
		b[i]++
		checkDecode(t, b, api.Program{}, api.ErrForm)
		checkDecode(t, b[:i+1], api.Program{}, api.ErrForm)
	}
	checkDecode(t, nil, api.Program{}, api.ErrShort)
}

// 6.6: the sum stands with its highest byte first, at the very end.
func TestDecodeSum(t *testing.T) {
	b := vm.Encode(adder(t))
	for i := len(b) - 4; i < len(b); i++ {
		for change := byte(1); change != 0; change++ {
			other := slices.Clone(b)
			other[i] += change
			checkDecode(t, other, api.Program{}, api.ErrSum)
		}
	}
	other := slices.Clone(b)
	slices.Reverse(other[len(b)-4:])
	checkDecode(t, other, api.Program{}, api.ErrSum)
}

// 6.6, 6.7: bytes that were cut or have something behind them, and all bytes in which one bit was turned.
func TestBytesCutAndTurned(t *testing.T) {
	c := chance(66)
	for range 60 {
		b := vm.Encode(c.writable())
		for n := range b {
			checkDecode(t, b[:n], api.Program{}, api.ErrShort)
		}
		for more := range 9 {
			checkDecode(t, append(slices.Clone(b), make([]byte, more+1)...), api.Program{}, api.ErrForm)
		}
		for i := range 8 * len(b) {
			turned := slices.Clone(b)
			turned[i/8] ^= 1 << (i % 8)
			_, code := understood(turned)
			if code == api.OK {
				t.Fatalf("% x with bit %d turned is taken by the slow reading", b, i)
			}
			checkDecode(t, turned, api.Program{}, code)
		}
		if t.Failed() {
			return
		}
	}
}

// 6.5, 6.6, 6.7: programs that were thrown, and their bytes with a change or two; what is taken is written as the very bytes.
func TestBytesThrown(t *testing.T) {
	c := chance(67)
	count := map[api.Errno]int{}
	for range 20000 {
		p := c.writable()
		checkWritten(t, p)
		b := vm.Encode(p)
		if c.below(3) > 0 {
			b = b[:len(b)-4]
		}
		for range 1 + c.below(3) {
			b = c.changed(b)
		}
		if c.below(4) > 0 {
			b = sealed(b)
		}
		want, code := understood(b)
		checkDecode(t, b, want, code)
		if code == api.OK && !bytes.Equal(vm.Encode(want), b) {
			t.Errorf("% x is not the one way to write %+v", b, want)
		}
		if count[code]++; t.Failed() {
			return
		}
	}
	for _, code := range []api.Errno{api.OK, api.ErrShort, api.ErrForm, api.ErrOp, api.ErrSum} {
		if count[code] < 200 {
			t.Errorf("%v", count)
		}
	}
}

// changed is bytes of which one was changed, left out or put in, or the last ones cut.
func (c *chance) changed(b []byte) []byte {
	b = slices.Clone(b)
	if len(b) == 0 {
		return b
	}
	at := c.below(len(b))
	if len(b) > 4 {
		// The letters alone would be wrong too often.
		at = 4 + c.below(len(b)-4)
	}
	other := pick(c, []byte{0, 1, 31, 33, 41, 42, 64, 65, 127, 128, 129, 255, byte(c.next())})
	switch c.below(5) {
	case 0:
		return slices.Delete(b, at, at+1)
	case 1:
		return slices.Insert(b, at, other)
	case 2:
		return b[:at]
	}
	b[at] = other
	return b
}

// 6.6: bytes that were thrown from the first one on.
func TestDecodeAnyBytes(t *testing.T) {
	c := chance(68)
	for range 20000 {
		b := []byte("hzvm")[:c.below(5)]
		for range c.below(20) {
			b = append(b[:len(b):len(b)], pick(&c, []byte{0, 0, 0, 1, 2, 3, byte(c.next()), byte(c.next())}))
		}
		want, code := understood(b)
		checkDecode(t, b, want, code)
		if t.Failed() {
			return
		}
	}
}

// 6.6: what Decode gives need not pass Verify.
func TestDecodeDoesNotVerify(t *testing.T) {
	for _, p := range []api.Program{
		{Entry: []int{4095}}, {Code: []api.Instr{{Op: api.IJump, A: -9, B: 4}}}, made(t, 0, 0, []int{0}, "add, load 70"), {Code: []api.Instr{{Op: api.IStop, A: 7}}},
	} {
		checkWritten(t, p)
	}
}

// 6.5, 6.6, 0.4: nothing that is handed in is changed, and what is handed out is new.
func TestBytesShareNothing(t *testing.T) {
	p, before := adder(t), adder(t)
	want := written(p)
	first, second := vm.Encode(p), vm.Encode(p)
	for i := range first[:cap(first)] {
		first[:cap(first)][i] = 9
	}
	if !bytes.Equal(second, want) || !bytes.Equal(vm.Encode(p), want) || !sameProgram(p, before) {
		t.Errorf("% x, %+v", second, p)
	}
	room := append(slices.Clone(want), 1, 2, 3)
	b := room[:len(want)]
	one, _ := vm.Decode(b)
	two, _ := vm.Decode(b)
	for i := range one.Code[:cap(one.Code)] {
		one.Code[:cap(one.Code)][i].Op = 9
	}
	for i := range one.Entry[:cap(one.Entry)] {
		one.Entry[:cap(one.Entry)][i] = 9
	}
	if !sameProgram(two, before) || !bytes.Equal(room, append(slices.Clone(want), 1, 2, 3)) {
		t.Errorf("%+v, % x", two, room)
	}
	clear(room)
	if !sameProgram(two, before) {
		t.Errorf("%+v", two)
	}
}
