package journal_test

import (
	"bytes"
	"math/big"
	"slices"

	"horizon/api"
	"horizon/seqrun"
)

// The chapter's words read a second time: slowly, with lists of whole records, and a run that is looked at behind each step.

// sum is 1.13, bit by bit.
func sum(b []byte) uint32 {
	r := ^uint32(0)
	for _, c := range b {
		for k := range 8 {
			x := r&1 ^ uint32(c>>k)&1
			r >>= 1
			if x == 1 {
				r ^= 0xEDB88320
			}
		}
	}
	return ^r
}

func four(n uint32) []byte { return []byte{byte(n), byte(n >> 8), byte(n >> 16), byte(n >> 24)} }

// unsigned and signed are 1.5, with true numbers.
func unsigned(n uint64) []byte { return sevens(new(big.Int).SetUint64(n)) }

func signed(i int64) []byte {
	n := new(big.Int).Mul(big.NewInt(i), big.NewInt(2))
	if i < 0 {
		n.Sub(n.Neg(n), big.NewInt(1))
	}
	return sevens(n)
}

func sevens(n *big.Int) (b []byte) {
	for {
		rest := new(big.Int)
		n, rest = new(big.Int).DivMod(n, big.NewInt(128), rest)
		if n.Sign() == 0 {
			return append(b, byte(rest.Int64()))
		}
		b = append(b, byte(rest.Int64()+128))
	}
}

func eventBytes(e api.Event) []byte {
	return slices.Concat(unsigned(e.Key.Time), signed(int64(e.Key.Src)), unsigned(e.Key.Seq), signed(int64(e.Dst)), signed(int64(e.Kind)), signed(e.Data))
}

func listBytes(l []api.Event) []byte {
	b := unsigned(uint64(len(l)))
	for _, e := range l {
		b = append(b, eventBytes(e)...)
	}
	return b
}

// record is 16.3.
func record(kind byte, load []byte) []byte {
	front := slices.Concat([]byte{kind}, four(uint32(len(load))))
	return slices.Concat(front, four(sum(front)), load, four(sum(load)))
}

func headLoad(digest uint32, every uint64) []byte {
	return slices.Concat([]byte("HORIZON1"), four(digest), unsigned(every))
}

func pictureLoad(number uint64, at api.Point) []byte {
	b := slices.Concat(unsigned(number), unsigned(uint64(len(at.States))))
	for _, v := range at.States {
		b = append(b, unsigned(uint64(len(v.Words)))...)
		for _, w := range v.Words {
			b = append(b, signed(w)...)
		}
		b = slices.Concat(b, unsigned(v.Dice), unsigned(v.Sent))
	}
	return append(b, listBytes(at.Pending)...)
}

func windowLoad(number uint64, l []api.Event) []byte {
	return slices.Concat(unsigned(number), listBytes(l))
}

func endLoad(r api.Result) []byte {
	return slices.Concat(unsigned(uint64(r.Kind)), unsigned(uint64(r.Code)), unsigned(r.At.Time), signed(int64(r.At.Src)), unsigned(r.At.Seq))
}

// slowDigest is 16.5.
func slowDigest(p api.Plan) uint32 {
	var b []byte
	put := func(i int) { b = append(b, signed(int64(i))...) }
	put(p.Kinds)
	put(len(p.Programs))
	for _, g := range p.Programs {
		put(g.Words)
		put(g.Locals)
		put(len(g.Code))
		for _, in := range g.Code {
			put(in.Op)
			b = slices.Concat(b, signed(in.A), signed(in.B))
		}
		put(len(g.Entry))
		for _, at := range g.Entry {
			put(at)
		}
	}
	put(len(p.Parts))
	for _, part := range p.Parts {
		put(part.Program)
		put(len(part.Words))
		for _, w := range part.Words {
			b = append(b, signed(w)...)
		}
	}
	put(len(p.Starts))
	for _, s := range p.Starts {
		b = append(b, unsigned(s.Time)...)
		put(s.Dst)
		put(s.Kind)
		b = append(b, signed(s.Data)...)
	}
	b = slices.Concat(b, unsigned(p.Seed), unsigned(p.Look), unsigned(p.End))
	put(p.Budget)
	put(p.Fuel)
	return sum(b)
}

// nextWindow is 16.1: a run goes on by one window; none, if not one event more is executed.
func nextWindow(p api.Plan, s *seqrun.Sim) []api.Event {
	var l []api.Event
	bound := new(big.Int)
	for {
		pending := s.Point().Pending
		if len(l) > 0 && (len(pending) == 0 || new(big.Int).SetUint64(pending[0].Key.Time).Cmp(bound) >= 0) {
			return l
		}
		e, code := s.Step()
		if code != api.OK {
			return l
		}
		if l = append(l, e); len(l) == 1 {
			bound.SetUint64(e.Key.Time).Add(bound, new(big.Int).SetUint64(p.Look))
			if most := new(big.Int).SetUint64(p.End); bound.Cmp(most) > 0 {
				bound = most
			}
		}
	}
}

// slowRecord is 16.6 of what may be written, by 16.4.
func slowRecord(p api.Plan, every int) ([]byte, api.Result, error) {
	at, _ := seqrun.First(p)
	s, _ := seqrun.Open(p, at)
	b := slices.Concat(record('H', headLoad(slowDigest(p), uint64(every))), record('P', pictureLoad(0, at)))
	return slowRest(p, every, b, s, 0)
}

// slowRest is all that a run still writes behind a window.
func slowRest(p api.Plan, every int, b []byte, s *seqrun.Sim, number int) ([]byte, api.Result, error) {
	for l := nextWindow(p, s); len(l) > 0; l = nextWindow(p, s) {
		number++
		b = append(b, record('W', windowLoad(uint64(number), l))...)
		if number%every == 0 {
			b = append(b, record('P', pictureLoad(uint64(number), s.Point()))...)
		}
	}
	r := s.Result()
	return append(b, record('F', endLoad(r))...), r, errOf(r)
}

// errOf is 14.1 a second time, of the results that there are here.
func errOf(r api.Result) error {
	if r.Kind == 3 {
		return &api.KeyError{Key: r.At, Err: r.Code}
	}
	return nil
}

// noted is a record that was read: where it begins and ends, and what its load tells.
type noted struct {
	kind     byte
	from, to int
	digest   uint32
	number   uint64 // a head's every, or the number of a picture or a window
	states   []api.State
	events   []api.Event // pending ones, or executed ones
}

// bites takes things from the front of a load; wrong tells that something was none.
type bites struct {
	b     []byte
	wrong bool
}

func (l *bites) unsigned() uint64 {
	k := slices.IndexFunc(l.b, func(c byte) bool { return c < 128 })
	if k < 0 || l.wrong {
		l.wrong = true
		return 0
	}
	n := new(big.Int)
	for i := k; i >= 0; i-- {
		n.Mul(n, big.NewInt(128)).Add(n, big.NewInt(int64(l.b[i]&127)))
	}
	l.wrong = !n.IsUint64() || k > 0 && l.b[k] == 0
	l.b = l.b[k+1:]
	return n.Uint64()
}

func (l *bites) signed() int64 {
	n := new(big.Int).SetUint64(l.unsigned())
	if n.Bit(0) == 1 {
		return n.Add(n, big.NewInt(1)).Div(n, big.NewInt(2)).Neg(n).Int64()
	}
	return n.Div(n, big.NewInt(2)).Int64()
}

func (l *bites) events() (list []api.Event) {
	for n := l.unsigned(); n > 0 && !l.wrong; n-- {
		e := api.Event{Key: api.Key{Time: l.unsigned(), Src: int(l.signed()), Seq: l.unsigned()}}
		e.Dst, e.Kind, e.Data = int(l.signed()), int(l.signed()), l.signed()
		list = append(list, e)
	}
	return list
}

func (l *bites) states() (list []api.State) {
	for n := l.unsigned(); n > 0 && !l.wrong; n-- {
		var v api.State
		for k := l.unsigned(); k > 0 && !l.wrong; k-- {
			v.Words = append(v.Words, l.signed())
		}
		v.Dice, v.Sent = l.unsigned(), l.unsigned()
		list = append(list, v)
	}
	return list
}

// slowLoad is what a load tells, if it looks as its kind's do.
func slowLoad(x *noted, load []byte) bool {
	l := bites{b: load}
	switch x.kind {
	case 'H':
		if len(load) < 12 || string(load[:8]) != "HORIZON1" {
			return false
		}
		l.b = load[12:]
		x.digest = uint32(load[8]) + uint32(load[9])<<8 + uint32(load[10])<<16 + uint32(load[11])<<24
		x.number = l.unsigned()
		l.wrong = l.wrong || x.number < 1 || x.number > 64
	case 'P':
		x.number = l.unsigned()
		x.states = l.states()
		x.events = l.events()
	case 'W':
		x.number = l.unsigned()
		x.events = l.events()
	case 'F':
		l.unsigned()
		l.unsigned()
		l.unsigned()
		l.signed()
		l.unsigned()
	}
	return !l.wrong && len(l.b) == 0
}

func countKind(l []noted, kind byte) (n uint64) {
	for _, x := range l {
		if x.kind == kind {
			n++
		}
	}
	return n
}

// mayCome tells whether a record may come behind others by 16.4: as many pictures must be there as are due.
func mayCome(l []noted, x noted) bool {
	if len(l) == 0 || len(l) == 1 {
		return len(l) == 0 && x.kind == 'H' || len(l) == 1 && x.kind == 'P' && x.number == 0
	}
	windows := countKind(l, 'W')
	if countKind(l, 'P') < 1+windows/l[0].number {
		return x.kind == 'P' && x.number == windows
	}
	return x.kind == 'W' && x.number == windows+1 || x.kind == 'F'
}

// slowScan is 16.7: the records, and why there are no more.
func slowScan(b []byte) ([]noted, error) {
	var l []noted
	at := 0
	for {
		x, code := slowNext(l, b, at)
		if code == api.OK && x.to == 0 {
			return l, nil
		}
		if code != api.OK {
			return l, atByte(at, code)
		}
		l = append(l, x)
		at = x.to
	}
}

// slowNext is the record at a place; none, and OK, behind the end of all.
func slowNext(l []noted, b []byte, at int) (noted, api.Errno) {
	left := b[at:]
	if len(l) > 0 && l[len(l)-1].kind == 'F' {
		if len(left) > 0 {
			return noted{}, api.ErrForm
		}
		return noted{}, api.OK
	}
	if len(left) < 9 {
		return noted{}, api.ErrShort
	}
	if !bytes.Equal(left[5:9], four(sum(left[:5]))) {
		return noted{}, api.ErrSum
	}
	if !bytes.Contains([]byte("HPWF"), left[:1]) {
		return noted{}, api.ErrForm
	}
	size := int(left[1]) + int(left[2])<<8 + int(left[3])<<16 + int(left[4])<<24
	if len(left) < 9+size+4 {
		return noted{}, api.ErrShort
	}
	load := left[9 : 9+size]
	if !bytes.Equal(left[9+size:9+size+4], four(sum(load))) {
		return noted{}, api.ErrSum
	}
	x := noted{kind: left[0], from: at, to: at + 9 + size + 4}
	if len(l) == 0 && (x.kind != 'H' || !bytes.HasPrefix(load, []byte("HORIZON1"))) {
		return noted{}, api.ErrMagic
	}
	if !slowLoad(&x, load) || !mayCome(l, x) {
		return noted{}, api.ErrForm
	}
	return x, api.OK
}

// slowBytes is how many bytes the records have.
func slowBytes(l []noted) int {
	if len(l) == 0 {
		return 0
	}
	return l[len(l)-1].to
}

// slowRun is 16.8 of a valid plan: the run behind the last window, and its number.
func slowRun(p api.Plan, b []byte) (*seqrun.Sim, int, error) {
	l, err := slowScan(b)
	if len(l) < 2 {
		if broken := err.(*api.ByteError); broken.Err == api.ErrShort {
			broken.Err = api.ErrTorn
		}
		return nil, 0, err
	}
	if l[0].digest != slowDigest(p) {
		return nil, 0, atByte(0, api.ErrOther)
	}
	last := 0
	for i, x := range l {
		if x.kind == 'P' {
			last = i
		}
	}
	at := api.Point{States: l[last].states, Pending: l[last].events}
	for _, x := range l[:last] {
		if x.kind == 'W' {
			at.Trace = append(at.Trace, x.events...)
		}
	}
	s, code := seqrun.Open(p, at)
	if code != api.OK {
		return nil, 0, atByte(l[last].from, api.ErrPoint)
	}
	for _, x := range l[last:] {
		if x.kind != 'W' {
			continue
		}
		if next := nextWindow(p, s); len(next) == 0 || !slices.Equal(next, x.events) {
			return nil, 0, atByte(x.from, api.ErrTrace)
		}
	}
	return s, int(countKind(l, 'W')), nil
}

func slowRecover(p api.Plan, b []byte) (api.Point, int, error) {
	s, number, err := slowRun(p, b)
	if err != nil {
		return api.Point{}, 0, err
	}
	return s.Point(), number, nil
}

// slowResume is 16.9 of a valid plan and a right every.
func slowResume(p api.Plan, every int, b []byte) ([]byte, api.Result, error) {
	l, err := slowScan(b)
	if err != nil && len(l) < 2 && err.(*api.ByteError).Err == api.ErrShort {
		return slowRecord(p, every)
	}
	s, number, err := slowRun(p, b)
	if err != nil {
		return nil, api.Result{}, err
	}
	if l[0].number != uint64(every) {
		return nil, api.Result{}, atByte(0, api.ErrOther)
	}
	if l[len(l)-1].kind == 'F' {
		l = l[:len(l)-1]
	}
	kept := bytes.Clone(b[:slowBytes(l)])
	if l[len(l)-1].kind == 'W' && number%every == 0 {
		kept = append(kept, record('P', pictureLoad(uint64(number), s.Point()))...)
	}
	return slowRest(p, every, kept, s, number)
}
