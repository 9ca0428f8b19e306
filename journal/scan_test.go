package journal_test

import (
	"bytes"
	"fmt"
	"math"
	"runtime"
	"slices"
	"testing"

	"horizon/api"
	"horizon/journal"
)

// opening is a head with this every and the picture 0 of small; its length.
func opening(t *testing.T, every uint64) ([]byte, int) {
	t.Helper()
	b := slices.Concat(record('H', headLoad(slowDigest(small()), every)), record('P', pictureLoad(0, first(t, small()))))
	return b, len(b)
}

// wantScan holds Scan against what is asked, and against the words read slowly.
func wantScan(t *testing.T, what any, b []byte, records, bytes int, code api.Errno) {
	t.Helper()
	var err error
	if code != api.OK {
		err = atByte(bytes, code)
	}
	same(t, what, scan(journal.Scan(b)), scan(records, bytes, err))
	l, err := slowScan(b)
	same(t, what, scan(len(l), slowBytes(l), err), scan(journal.Scan(b)))
}

// badFront is a record whose first sum is wrong, badLoad one whose second is.
func badFront(kind byte, load []byte) []byte {
	b := record(kind, load)
	b[7] ^= 16
	return b
}

func badLoad(kind byte, load []byte) []byte {
	b := record(kind, load)
	b[len(b)-2] ^= 1
	return b
}

// 16.7: the first record: what is asked of it, in its order.
func TestFirstRecord(t *testing.T) {
	head := headLoad(5, 3)
	for i, x := range []struct {
		what string
		b    []byte
		code api.Errno
	}{
		{"eight bytes", record('H', head)[:8], api.ErrShort},
		{"eight wrong bytes", badFront('X', head)[:8], api.ErrShort},
		{"a wrong front sum of an unknown kind", badFront('X', head), api.ErrSum},
		{"a wrong front sum, and too short", badFront('H', head)[:12], api.ErrSum},
		{"an unknown kind, and too short", record('X', head)[:12], api.ErrForm},
		{"an unknown kind, and a wrong sum", badLoad('X', head), api.ErrForm},
		{"a small letter", record('h', head), api.ErrForm},
		{"the kind 0", record(0, nil), api.ErrForm},
		{"the kind 255", record(255, head), api.ErrForm},
		{"the front alone", record('H', head)[:9], api.ErrShort},
		{"no whole load", record('H', head)[:15], api.ErrShort},
		{"no sum", record('H', head)[:22], api.ErrShort},
		{"no whole sum", record('H', head)[:25], api.ErrShort},
		{"no load, no sum", record('W', nil)[:12], api.ErrShort},
		{"a wrong sum of no head", badLoad('W', []byte{1, 0}), api.ErrSum},
		{"a wrong sum of no magic", badLoad('H', []byte("HORIZON2....\x03")), api.ErrSum},
		{"a window", record('W', []byte{1, 0}), api.ErrMagic},
		{"a picture", record('P', []byte{0, 0, 0}), api.ErrMagic},
		{"an end", record('F', []byte{1, 0, 0, 0, 0}), api.ErrMagic},
		{"a window without any load", record('W', nil), api.ErrMagic},
		{"a window with a head's load", record('W', head), api.ErrMagic},
		{"an empty head", record('H', nil), api.ErrMagic},
		{"seven letters", record('H', []byte("HORIZON")), api.ErrMagic},
		{"another letter", record('H', []byte("HORIZON2....\x03")), api.ErrMagic},
		{"a small letter in the magic", record('H', []byte("hORIZON1....\x03")), api.ErrMagic},
		{"letters alone", record('H', []byte("HORIZON1")), api.ErrForm},
		{"three bytes of a digest", record('H', head[:11]), api.ErrForm},
		{"no every", record('H', head[:12]), api.ErrForm},
		{"every 0", record('H', headLoad(5, 0)), api.ErrForm},
		{"every 65", record('H', headLoad(5, 65)), api.ErrForm},
		{"every 2^63", record('H', headLoad(5, 1<<63)), api.ErrForm},
		{"every of 2^64 - 1", record('H', headLoad(5, math.MaxUint64)), api.ErrForm},
		{"every 1 beyond 64 bits", record('H', slices.Concat(head[:12], []byte{129, 128, 128, 128, 128, 128, 128, 128, 128, 2})), api.ErrForm},
		{"every in a long way", record('H', slices.Concat(head[:12], []byte{131, 0})), api.ErrForm},
		{"every that breaks off", record('H', slices.Concat(head[:12], []byte{131})), api.ErrForm},
		{"one byte left over", record('H', append(slices.Clone(head), 0)), api.ErrForm},
	} {
		wantScan(t, fmt.Sprint(i, " ", x.what), x.b, 0, 0, x.code)
		wantScan(t, fmt.Sprint(i, " ", x.what, ", nothing behind it"), slices.Clip(x.b), 0, 0, x.code)
	}
	for _, every := range []uint64{1, 2, 63, 64} {
		b := record('H', headLoad(math.MaxUint32, every))
		wantScan(t, every, b, 1, len(b), api.ErrShort)
	}
}

// 16.7: the record behind the head is the picture 0, whatever stands in it.
func TestSecondRecord(t *testing.T) {
	head := record('H', headLoad(5, 3))
	n := len(head)
	for _, x := range []struct {
		what string
		b    []byte
		code api.Errno
	}{
		{"nothing", nil, api.ErrShort},
		{"another head", record('H', headLoad(5, 3)), api.ErrForm},
		{"a head with other letters", record('H', []byte("HORIZON2....\x03")), api.ErrForm},
		{"an empty head", record('H', nil), api.ErrForm},
		{"a window", record('W', windowLoad(1, nil)), api.ErrForm},
		{"a window 0", record('W', windowLoad(0, nil)), api.ErrForm},
		{"an end", record('F', endLoad(api.Result{Kind: 1})), api.ErrForm},
		{"the picture 1", record('P', pictureLoad(1, api.Point{})), api.ErrForm},
		{"the picture 3", record('P', pictureLoad(3, api.Point{})), api.ErrForm},
		{"the picture 2^64 - 1", record('P', pictureLoad(math.MaxUint64, api.Point{})), api.ErrForm},
		{"a wrong sum", badLoad('P', pictureLoad(0, api.Point{})), api.ErrSum},
		{"a wrong front", badFront('P', pictureLoad(0, api.Point{})), api.ErrSum},
		{"an empty load", record('P', nil), api.ErrForm},
		{"no parts", record('P', []byte{0}), api.ErrForm},
		{"no pending", record('P', []byte{0, 0}), api.ErrForm},
		{"left over", record('P', []byte{0, 0, 0, 0}), api.ErrForm},
		{"a part too few", record('P', []byte{0, 1, 0}), api.ErrForm},
		{"a word too few", record('P', []byte{0, 1, 3, 1, 1}), api.ErrForm},
		{"an event too few", record('P', []byte{0, 0, 2, 0, 0, 0, 0, 0, 0}), api.ErrForm},
		{"a number in a long way", record('P', []byte{0, 1, 0, 128, 0, 0, 0}), api.ErrForm},
		{"an event in a long way", record('P', []byte{0, 0, 1, 0, 0, 0, 0, 0, 129, 0}), api.ErrForm},
		{"a Dice beyond 64 bits", record('P', slices.Concat([]byte{0, 1, 0}, bytes.Repeat([]byte{255}, 9), []byte{2, 0, 0})), api.ErrForm},
		{"a Dice of eleven bytes", record('P', slices.Concat([]byte{0, 1, 0}, bytes.Repeat([]byte{255}, 9), []byte{129, 1, 0, 0})), api.ErrForm},
		{"a number of ten zeros and a 1 on top", record('P', slices.Concat(bytes.Repeat([]byte{128}, 10), []byte{1, 0, 0})), api.ErrForm},
	} {
		wantScan(t, x.what, slices.Concat(head, x.b), 1, n, x.code)
	}
	wildEvent := api.Event{Key: api.Key{Time: math.MaxUint64, Src: math.MinInt, Seq: math.MaxUint64}, Dst: -1, Kind: math.MaxInt, Data: math.MinInt64}
	for _, at := range []api.Point{
		{},
		{States: make([]api.State, 3)},
		{States: []api.State{{Words: []int64{math.MinInt64, math.MaxInt64}, Dice: math.MaxUint64, Sent: math.MaxUint64}}},
		{Pending: []api.Event{wildEvent, wildEvent, {}}},
	} {
		b := slices.Concat(head, record('P', pictureLoad(0, at)))
		wantScan(t, tellPoint(at), b, 2, len(b), api.ErrShort)
	}
}

// 16.7: a number that promises more than there is takes no more work than the bytes that are there.
func TestGreatCounts(t *testing.T) {
	head := record('H', headLoad(5, 3))
	for _, n := range []uint64{3, 1 << 31, 1 << 62, math.MaxInt64, 1 << 63, math.MaxUint64} {
		for _, load := range [][]byte{
			slices.Concat([]byte{0}, unsigned(n)),
			slices.Concat([]byte{0}, unsigned(n), make([]byte, 8)),
			slices.Concat([]byte{0, 1}, unsigned(n)),
			slices.Concat([]byte{0, 0}, unsigned(n), make([]byte, 17)),
		} {
			wantScan(t, n, slices.Concat(head, record('P', load)), 1, len(head), api.ErrForm)
		}
	}
	b := slices.Concat(head, []byte{'P', 255, 255, 255, 255})
	b = append(b, four(sum(b[len(head):]))...)
	var m runtime.MemStats
	runtime.ReadMemStats(&m)
	ahead := m.TotalAlloc
	wantScan(t, "four gigabytes", b, 1, len(head), api.ErrShort)
	wantScan(t, "four gigabytes", slices.Concat(b, make([]byte, 99)), 1, len(head), api.ErrShort)
	if runtime.ReadMemStats(&m); m.TotalAlloc-ahead > 1<<20 {
		t.Errorf("%d bytes were taken", m.TotalAlloc-ahead)
	}
}

// 16.7: which records may come where: every row of up to six of them behind the picture 0.
func TestRows(t *testing.T) {
	type piece struct {
		name string
		b    []byte
	}
	var all []piece
	for n := range uint64(4) {
		all = append(all, piece{fmt.Sprint("W", n), record('W', windowLoad(n, nil))})
		all = append(all, piece{fmt.Sprint("P", n), record('P', pictureLoad(n, api.Point{}))})
	}
	all = append(all, piece{"F", record('F', endLoad(api.Result{}))}, piece{"H", record('H', headLoad(1, 2))})
	whole, rows := 0, 0
	var grow func(name string, b []byte, left int)
	grow = func(name string, b []byte, left int) {
		rows++
		l, err := slowScan(b)
		if got, want := scan(journal.Scan(b)), scan(len(l), slowBytes(l), err); got != want {
			t.Fatalf("%s: %s, not %s", name, got, want)
		}
		if err == nil {
			whole++
		}
		// Behind a record that may not come nothing is read.
		if left == 0 || slowBytes(l) < len(b) {
			return
		}
		for _, x := range all {
			grow(name+" "+x.name, slices.Concat(b, x.b), left-1)
		}
	}
	for _, every := range []uint64{1, 2, 3, 64} {
		b, _ := opening(t, every)
		grow(fmt.Sprint("every ", every), b, 6)
	}
	// every 1: an end behind 0, 1 or 2 pictures more; every 2: behind 0, 1, 2 or 3 windows; every 3 and 64 likewise.
	if whole != 3+4+4+4 {
		t.Errorf("%d of %d rows are whole", whole, rows)
	}
}

// 16.7: behind the end nothing may stand.
func TestBehindTheEnd(t *testing.T) {
	for _, every := range []int{1, 2} {
		j, _, _ := journal.Record(small(), every)
		records := len(kindsOf(j))
		wantScan(t, every, j, records, len(j), api.OK)
		for _, behind := range [][]byte{{0}, {'H'}, record('F', endLoad(api.Result{Kind: 1})), j, make([]byte, 8)} {
			wantScan(t, behind, slices.Concat(j, behind), records, len(j), api.ErrForm)
		}
	}
	b, _ := opening(t, 1)
	for _, load := range [][]byte{{1, 0, 0, 0, 0}, {0, 0, 0, 0, 0}, {99, 200, 1, 7, 1, 255, 1}, slices.Repeat([]byte{255, 255, 255, 255, 255, 255, 255, 255, 255, 1}, 5)} {
		j := slices.Concat(b, record('F', load))
		wantScan(t, load, j, 3, len(j), api.OK)
		wantScan(t, load, slices.Concat(b, record('F', append(slices.Clone(load), 0))), 2, len(b), api.ErrForm)
		wantScan(t, load, slices.Concat(b, record('F', load[:len(load)-1])), 2, len(b), api.ErrForm)
	}
}

// 16.7: windows, whatever events stand in them.
func TestWindowLoads(t *testing.T) {
	b, n := opening(t, 64)
	wildEvent := api.Event{Key: api.Key{Time: math.MaxUint64, Src: math.MinInt, Seq: math.MaxUint64}, Dst: math.MinInt, Kind: -1, Data: math.MaxInt64}
	for _, l := range [][]api.Event{nil, {{}}, {wildEvent, {}, wildEvent}, make([]api.Event, 300)} {
		j := slices.Concat(b, record('W', windowLoad(1, l)))
		wantScan(t, texts(l), j, 3, len(j), api.ErrShort)
		wantScan(t, texts(l), slices.Concat(b, record('W', windowLoad(2, l))), 2, n, api.ErrForm)
		wantScan(t, texts(l), slices.Concat(b, record('W', append(windowLoad(1, l), 0))), 2, n, api.ErrForm)
	}
	for _, load := range [][]byte{nil, {1}, {129, 0, 0}, {1, 128, 0}, {1, 1, 0, 0, 0, 0, 0}, {1, 1, 0, 0, 0, 0, 0, 128, 0}} {
		wantScan(t, load, slices.Concat(b, record('W', load)), 2, n, api.ErrForm)
	}
	for number := range uint64(64) {
		b = append(b, record('W', windowLoad(number+1, nil))...)
	}
	wantScan(t, "64 windows", b, 66, len(b), api.ErrShort)
	wantScan(t, "a picture due", slices.Concat(b, record('W', windowLoad(65, nil))), 66, len(b), api.ErrForm)
	wantScan(t, "a picture due", slices.Concat(b, record('F', []byte{1, 0, 0, 0, 0})), 66, len(b), api.ErrForm)
	j := slices.Concat(b, record('P', pictureLoad(64, api.Point{})))
	wantScan(t, "the picture", j, 67, len(j), api.ErrShort)
}

// 16.7: every place at which a journal may break off, and every byte that may be changed.
func TestScanSpoilt(t *testing.T) {
	for _, p := range []api.Plan{small(), clockwork(), scenario(t, breaks)} {
		j, _, _ := journal.Record(p, 2)
		whole, _ := slowScan(j)
		for n := range j {
			count := slices.IndexFunc(whole, func(x noted) bool { return x.to > n })
			wantScan(t, n, j[:n], count, whole[count].from, api.ErrShort)
			wantScan(t, n, slices.Clip(j[:n]), count, whole[count].from, api.ErrShort)
			b := bytes.Clone(j)
			for range 255 {
				b[n]++
				records, length, err := journal.Scan(b)
				if records != count || length != whole[count].from || tellErr(err) != tellErr(atByte(length, api.ErrSum)) {
					t.Fatalf("byte %d is %d: %s", n, b[n], scan(records, length, err))
				}
			}
		}
	}
}
