package stamp_test

import (
	"bytes"
	"slices"
	"testing"

	"horizon/stamp"
)

// bitSum is the check sum of 1.13, bit by bit.
func bitSum(b []byte) uint32 {
	register := uint32(0xFFFFFFFF)
	for _, c := range b {
		for bit := range 8 {
			x := uint32(c)>>bit&1 ^ register&1
			register >>= 1
			if x == 1 {
				register ^= 0xEDB88320
			}
		}
	}
	return register ^ 0xFFFFFFFF
}

// 1.13
func TestSumExamples(t *testing.T) {
	for _, c := range []struct {
		s    string
		want uint32
	}{
		{"", 0},
		{"\x00", 0xD202EF8D},
		{"a", 0xE8B7BE43},
		{"123456789", 0xCBF43926},
		{"The quick brown fox jumps over the lazy dog", 0x414FA339},
	} {
		if got := stamp.Sum([]byte(c.s)); got != c.want {
			t.Errorf("Sum(%q) = %08X, not %08X", c.s, got, c.want)
		}
	}
	if got := stamp.Sum(nil); got != 0 {
		t.Errorf("Sum(nil) = %08X", got)
	}
}

// 1.13: each byte, by itself and behind another.
func TestSumOfEachByte(t *testing.T) {
	for c := range 256 {
		for _, b := range [][]byte{{byte(c)}, {7, byte(c)}, {byte(c), 255}} {
			if got := stamp.Sum(b); got != bitSum(b) {
				t.Errorf("Sum(%x) = %08X, not %08X", b, got, bitSum(b))
			}
		}
	}
}

// 1.13: each length, nothing changed, and the same again.
func TestSumOfTexts(t *testing.T) {
	r := thrown(13)
	for size := range 600 {
		b := make([]byte, size)
		for i := range b {
			b[i] = byte(r.next())
		}
		given := slices.Clone(b)
		want := bitSum(b)
		for range 2 {
			if got := stamp.Sum(b); got != want {
				t.Fatalf("Sum(%x) = %08X, not %08X", b, got, want)
			}
		}
		if !bytes.Equal(b, given) {
			t.Fatalf("Sum changed %x", given)
		}
	}
	zeros := make([]byte, 1<<16)
	if got := stamp.Sum(zeros); got != bitSum(zeros) {
		t.Errorf("Sum of many zeros = %08X", got)
	}
}

// 1.13: differences within 32 bits side by side always show.
func TestSumShowsShortDifferences(t *testing.T) {
	r := thrown(14)
	b := []byte("a text of some length, neither short nor long")
	want := stamp.Sum(b)
	for at := range 8*len(b) - 31 {
		for _, pattern := range []uint32{1, 3, 0x80000001, 0xFFFFFFFF, uint32(r.next()) | 1, uint32(r.next()) | 1} {
			spoilt := slices.Clone(b)
			for i := range 32 {
				spoilt[(at+i)/8] ^= byte(pattern>>i&1) << ((at + i) % 8)
			}
			if stamp.Sum(spoilt) == want {
				t.Fatalf("the difference %08X at bit %d does not show", pattern, at)
			}
		}
	}
}
