package stamp_test

import (
	"bytes"
	"math/big"
	"runtime"
	"slices"
	"testing"

	"horizon/api"
	"horizon/stamp"
)

// plainBytes writes a number as 1.5 says it, by division.
func plainBytes(n *big.Int) []byte {
	base, n := big.NewInt(128), new(big.Int).Set(n)
	var b []byte
	for n.Cmp(base) >= 0 {
		digit := new(big.Int)
		n.DivMod(n, base, digit)
		b = append(b, byte(digit.Int64()+128))
	}
	return append(b, byte(n.Int64()))
}

func unsignedBytes(n uint64) []byte { return plainBytes(new(big.Int).SetUint64(n)) }

func signedBytes(i int64) []byte {
	n := new(big.Int).Mul(big.NewInt(i), big.NewInt(2))
	if i < 0 {
		n.Neg(n).Sub(n, big.NewInt(1))
	}
	return plainBytes(n)
}

func eventBytes(e api.Event) []byte {
	return slices.Concat(unsignedBytes(e.Key.Time), signedBytes(int64(e.Key.Src)), unsignedBytes(e.Key.Seq), signedBytes(int64(e.Dst)), signedBytes(int64(e.Kind)), signedBytes(e.Data))
}

func wantPack(t *testing.T, e api.Event) {
	t.Helper()
	want := eventBytes(e)
	got := stamp.Pack(e)
	if !bytes.Equal(got, want) {
		t.Fatalf("Pack(%v) = %x, not %x", e, got, want)
	}
	if back, n, err := stamp.Unpack(want); back != e || n != len(want) || err != api.OK {
		t.Fatalf("Unpack(%x) = %v, %d, %d, not %v", want, back, n, err, e)
	}
}

// 1.5, 1.6, 1.7: the bytes to the letter.
func TestPackExamples(t *testing.T) {
	for _, c := range []struct {
		e    api.Event
		want string
	}{
		{api.Event{}, "\x00\x00\x00\x00\x00\x00"},
		{event(12, 3, 0, 4, 5, -7), "\x0c\x06\x00\x08\x0a\x0d"},
		{event(300, -1, 0, 0, 1, 64), "\xac\x02\x01\x00\x00\x02\x80\x01"},
		{event(127, -1, 128, 1, -2, 2), "\x7f\x01\x80\x01\x02\x03\x04"},
		{event(most, 63, most, -64, 64, -65), "\xff\xff\xff\xff\xff\xff\xff\xff\xff\x01\x7e\xff\xff\xff\xff\xff\xff\xff\xff\xff\x01\x7f\x80\x01\x81\x01"},
		{event(0, -1<<63, 0, 1<<63-1, 0, 0), "\x00\xff\xff\xff\xff\xff\xff\xff\xff\xff\x01\x00\xfe\xff\xff\xff\xff\xff\xff\xff\xff\x01\x00\x00"},
	} {
		if got := string(stamp.Pack(c.e)); got != c.want {
			t.Errorf("Pack(%v) = %x, not %x", c.e, got, c.want)
		}
		if e, n, err := stamp.Unpack([]byte(c.want)); e != c.e || n != len(c.want) || err != api.OK {
			t.Errorf("Unpack(%x) = %v, %d, %d", c.want, e, n, err)
		}
	}
}

// 1.5, 1.6, 1.7: every edge in every place.
func TestPackAtAllEdges(t *testing.T) {
	for _, n := range edges() {
		wantPack(t, event(n, 0, 0, 0, 0, 0))
		wantPack(t, event(1, 2, n, 3, 4, 5))
	}
	for _, i := range signedEdges() {
		wantPack(t, event(1, int(i), 2, 3, 4, 5))
		wantPack(t, event(1, 2, 3, int(i), 4, 5))
		wantPack(t, event(1, 2, 3, 4, int(i), 5))
		wantPack(t, event(1, 2, 3, 4, 5, i))
	}
}

// 1.5, 1.6, 1.7
func TestPackOfManyEvents(t *testing.T) {
	r := thrown(1)
	for range 5000 {
		wantPack(t, r.event())
	}
}

// 1.6: 6 to 60 bytes.
func TestPackLengths(t *testing.T) {
	if n := len(stamp.Pack(api.Event{})); n != 6 {
		t.Errorf("the shortest event takes %d bytes", n)
	}
	if n := len(stamp.Pack(event(most, -1<<63, most, -1<<63, 1<<63-1, -1<<63))); n != 60 {
		t.Errorf("the longest event takes %d bytes", n)
	}
}

// 1.6, 0.4: each answer is memory of its own.
func TestPackAnswersShareNothing(t *testing.T) {
	e := event(12, 3, 0, 4, 5, -7)
	a := stamp.Pack(e)
	b := stamp.Pack(e)
	clear(a[:cap(a)])
	if !bytes.Equal(b, eventBytes(e)) || !bytes.Equal(stamp.Pack(e), eventBytes(e)) {
		t.Error("an answer was changed by way of another one")
	}
	l := []api.Event{e, e}
	c := stamp.PackAll(l)
	d := stamp.PackAll(l)
	clear(c[:cap(c)])
	if !bytes.Equal(d, stamp.PackAll(l)) || l[0] != e || l[1] != e {
		t.Error("a list's bytes were changed by way of another answer")
	}
}

// 1.7: what stands behind is not looked at, and nothing is changed.
func TestUnpackLooksAtTheFrontOnly(t *testing.T) {
	e := event(300, -1, 7, 0, 1, 64)
	p := eventBytes(e)
	for _, behind := range []string{"", "\x00", "\xff", "\x80\x00", "\xff\xff\xff\xff\xff\xff\xff\xff\xff\xff\xff"} {
		b := append(slices.Clone(p), behind...)
		given := slices.Clone(b)
		if got, n, err := stamp.Unpack(b); got != e || n != len(p) || err != api.OK {
			t.Errorf("Unpack(%x) = %v, %d, %d", b, got, n, err)
		}
		if !bytes.Equal(b, given) {
			t.Errorf("Unpack changed %x into %x", given, b)
		}
	}
	whole := append(slices.Clone(p), 1, 2, 3)
	if _, _, err := stamp.Unpack(whole[:len(p)-1]); err != api.ErrShort {
		t.Errorf("Unpack read behind the list's end: %d", err)
	}
}

func wantUnpackError(t *testing.T, b []byte, want api.Errno) {
	t.Helper()
	if e, n, err := stamp.Unpack(b); e != (api.Event{}) || n != 0 || err != want {
		t.Errorf("Unpack(%x) = %v, %d, %d, not the error %d", b, e, n, err, want)
	}
}

// 1.7: ErrShort wherever the bytes end too early.
func TestUnpackOfTooFewBytes(t *testing.T) {
	wantUnpackError(t, nil, api.ErrShort)
	wantUnpackError(t, []byte{}, api.ErrShort)
	r := thrown(2)
	for range 200 {
		p := eventBytes(r.event())
		for n := range p {
			wantUnpackError(t, p[:n], api.ErrShort)
		}
	}
}

// 1.7: each wrong number, in each of the six places, with bytes behind it that would do.
func TestUnpackOfWrongNumbers(t *testing.T) {
	nines := "\xff\xff\xff\xff\xff\xff\xff\xff\xff"
	eighties := "\x80\x80\x80\x80\x80\x80\x80\x80\x80"
	for _, c := range []struct {
		number string
		behind string
		want   api.Errno
	}{
		{"\x80\x00", "\x00\x00\x00\x00\x00\x00", api.ErrForm},
		{"\x81\x00", "\x00\x00\x00\x00\x00\x00", api.ErrForm},
		{"\xff\x80\x00", "\x00\x00\x00\x00\x00\x00", api.ErrForm},
		{nines[:8] + "\x00", "\x00\x00\x00\x00\x00\x00", api.ErrForm},
		{nines + "\x00", "\x00\x00\x00\x00\x00\x00", api.ErrForm},
		{nines + "\x02", "\x00\x00\x00\x00\x00\x00", api.ErrForm},
		{nines + "\x7f", "\x00\x00\x00\x00\x00\x00", api.ErrForm},
		{nines + "\x80", "\x00\x00\x00\x00\x00\x00", api.ErrForm},
		{nines + "\x81", "\x00\x00\x00\x00\x00\x00", api.ErrForm},
		{nines + "\xff", "", api.ErrForm},
		{eighties + "\x02", "", api.ErrForm},
		{eighties + "\x00", "", api.ErrForm},
		{eighties + "\x81", "\x01\x00\x00\x00\x00\x00", api.ErrForm},
		{"\x80", "", api.ErrShort},
		{nines, "", api.ErrShort},
		{eighties, "", api.ErrShort},
		{"", "", api.ErrShort},
	} {
		front := []byte{}
		for range 6 {
			wantUnpackError(t, append(slices.Clone(front), c.number+c.behind...), c.want)
			front = append(front, 0x7f)
		}
	}
}

// 1.7: a tenth byte of 1 is right, whatever stands ahead of it.
func TestUnpackOfTenBytes(t *testing.T) {
	b := []byte("\x80\x80\x80\x80\x80\x80\x80\x80\x80\x01\x00\x80\x80\x80\x80\x80\x80\x80\x80\x80\x01\x00\x00\x80\x80\x80\x80\x80\x80\x80\x80\x80\x01")
	want := event(1<<63, 0, 1<<63, 0, 0, 1<<62)
	if e, n, err := stamp.Unpack(b); e != want || n != len(b) || err != api.OK {
		t.Errorf("Unpack(%x) = %v, %d, %d", b, e, n, err)
	}
}

// 1.7: the error is the first from the left.
func TestUnpackTellsTheFirstError(t *testing.T) {
	wantUnpackError(t, []byte("\x00\x80\x00\x80"), api.ErrForm)
	wantUnpackError(t, []byte("\x80\x00\xff\xff\xff\xff\xff\xff\xff\xff\xff\x02"), api.ErrForm)
	wantUnpackError(t, []byte("\x00\x00\x00\x00\x00\x81"), api.ErrShort)
}

// 1.7: what is read is what would be written.
func TestUnpackTakesOneFormOnly(t *testing.T) {
	r := thrown(3)
	taken := 0
	for range 20000 {
		b := make([]byte, r.below(16))
		for i := range b {
			b[i] = [...]byte{0, 1, 2, 127, 128, 129, 255, 7}[r.below(8)]
		}
		e, n, err := stamp.Unpack(b)
		if err == api.OK {
			taken++
			if n > len(b) || !bytes.Equal(eventBytes(e), b[:n]) {
				t.Fatalf("Unpack(%x) = %v, %d", b, e, n)
			}
		} else if e != (api.Event{}) || n != 0 || err != api.ErrShort && err != api.ErrForm {
			t.Fatalf("Unpack(%x) = %v, %d, %d", b, e, n, err)
		}
	}
	if taken == 0 {
		t.Error("nothing was taken at all")
	}
}

func listBytes(l []api.Event) []byte {
	b := unsignedBytes(uint64(len(l)))
	for _, e := range l {
		b = append(b, eventBytes(e)...)
	}
	return b
}

// 1.8
func TestPackAllAndBack(t *testing.T) {
	r := thrown(4)
	for _, size := range []int{0, 1, 2, 3, 127, 128, 129, 16383, 16384} {
		l := r.events(size)
		given := slices.Clone(l)
		want := listBytes(l)
		b := stamp.PackAll(l)
		if !bytes.Equal(b, want) {
			t.Fatalf("PackAll of %d events is wrong", size)
		}
		if !slices.Equal(l, given) {
			t.Fatalf("PackAll of %d events changed its list", size)
		}
		for _, behind := range []string{"", "\x00", "\xff\x80"} {
			got, n, err := stamp.UnpackAll(append(slices.Clone(want), behind...))
			if !slices.Equal(got, l) || n != len(want) || err != api.OK {
				t.Fatalf("UnpackAll of %d events: %d of them, %d bytes, error %d", size, len(got), n, err)
			}
		}
	}
}

// 1.8: the list's order and its twins stay.
func TestPackAllKeepsTheOrder(t *testing.T) {
	l := []api.Event{event(9, 0, 0, 1, 0, 0), event(1, 0, 0, 2, 0, 0), event(9, 0, 0, 1, 0, 0)}
	want := "\x03\x09\x00\x00\x02\x00\x00\x01\x00\x00\x04\x00\x00\x09\x00\x00\x02\x00\x00"
	if got := string(stamp.PackAll(l)); got != want {
		t.Errorf("PackAll = %x, not %x", got, want)
	}
	if got := string(stamp.PackAll(nil)); got != "\x00" {
		t.Errorf("PackAll(nil) = %x", got)
	}
}

func wantUnpackAllError(t *testing.T, b []byte, want api.Errno) {
	t.Helper()
	given := slices.Clone(b)
	if l, n, err := stamp.UnpackAll(b); len(l) != 0 || n != 0 || err != want {
		t.Errorf("UnpackAll(%x) = %v, %d, %d, not the error %d", b, l, n, err, want)
	}
	if !bytes.Equal(b, given) {
		t.Errorf("UnpackAll changed %x into %x", given, b)
	}
}

// 1.8
func TestUnpackAllOfTooFewBytes(t *testing.T) {
	wantUnpackAllError(t, nil, api.ErrShort)
	r := thrown(5)
	b := listBytes(r.events(4))
	for n := range b {
		wantUnpackAllError(t, b[:n], api.ErrShort)
	}
}

// 1.8
func TestUnpackAllOfWrongBytes(t *testing.T) {
	zeros := "\x00\x00\x00\x00\x00\x00"
	for _, c := range []struct {
		b    string
		want api.Errno
	}{
		{"\x80", api.ErrShort},
		{"\x80\x00", api.ErrForm},
		{"\x81\x00" + zeros, api.ErrForm},
		{"\xff\xff\xff\xff\xff\xff\xff\xff\xff\x02" + zeros, api.ErrForm},
		{"\xff\xff\xff\xff\xff\xff\xff\xff\xff\x80\x01" + zeros, api.ErrForm},
		{"\x01\x00\x00\x00\x00\x00\x80\x00", api.ErrForm},
		{"\x02" + zeros, api.ErrShort},
		{"\x02" + zeros + "\x00\x00\x80\x00", api.ErrForm},
		{"\x02" + zeros + "\x80\x00" + zeros + zeros, api.ErrForm},
		{"\x02\x80\x00", api.ErrForm},
	} {
		wantUnpackAllError(t, []byte(c.b), c.want)
	}
}

// 1.8: the bytes end first, and tell.
func TestUnpackAllOfGreatNumbers(t *testing.T) {
	r := thrown(6)
	for _, n := range []uint64{5, 1 << 20, 1<<31 - 1, 1 << 32, 1<<63 - 1, 1 << 63, most} {
		front := unsignedBytes(n)
		wantUnpackAllError(t, front, api.ErrShort)
		some := front
		for _, e := range r.events(4) {
			some = append(some, eventBytes(e)...)
		}
		wantUnpackAllError(t, some, api.ErrShort)
		wantUnpackAllError(t, append(some, 0x80, 0x00), api.ErrForm)
	}
}

// 1.8: a number that promises much takes no memory for what is not there.
func TestUnpackAllTakesNoMoreThanTheBytes(t *testing.T) {
	b := append(unsignedBytes(1<<22), make([]byte, 600)...)
	var ahead, behind runtime.MemStats
	runtime.ReadMemStats(&ahead)
	_, _, err := stamp.UnpackAll(b)
	runtime.ReadMemStats(&behind)
	if err != api.ErrShort {
		t.Errorf("the error is %d", err)
	}
	if took := behind.TotalAlloc - ahead.TotalAlloc; took > 1<<20 {
		t.Errorf("%d bytes of memory were taken for %d bytes", took, len(b))
	}
}

// 1.8, 0.4: who changes the bytes later, or one answer, changes no other.
func TestUnpackAllAnswersShareNothing(t *testing.T) {
	r := thrown(7)
	l := r.events(9)
	b := listBytes(l)
	first, _, _ := stamp.UnpackAll(b)
	second, _, _ := stamp.UnpackAll(b)
	clear(b)
	clear(first[:cap(first)])
	if !slices.Equal(second, l) {
		t.Error("an answer was changed by way of another one or of the bytes")
	}
}
