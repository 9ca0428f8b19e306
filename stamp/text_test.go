package stamp_test

import (
	"math/big"
	"regexp"
	"strings"
	"testing"

	"horizon/api"
	"horizon/stamp"
)

// eventText is the form of 1.9; what fits it may still be out of range.
var eventText = regexp.MustCompile(`\A(0|[1-9][0-9]*)\.(0|-?[1-9][0-9]*)\.(0|[1-9][0-9]*)>(0|-?[1-9][0-9]*):(0|-?[1-9][0-9]*)=(0|-?[1-9][0-9]*)\z`)

// plainParse is what 1.9 and 1.10 ask for.
func plainParse(s string) (api.Event, api.Errno) {
	m := eventText.FindStringSubmatch(s)
	if m == nil {
		return api.Event{}, api.ErrForm
	}
	var n [6]*big.Int
	for i := range n {
		n[i], _ = new(big.Int).SetString(m[i+1], 10)
		if unsigned := i == 0 || i == 2; unsigned && !n[i].IsUint64() || !unsigned && !n[i].IsInt64() {
			return api.Event{}, api.ErrForm
		}
	}
	return event(n[0].Uint64(), int(n[1].Int64()), n[2].Uint64(), int(n[3].Int64()), int(n[4].Int64()), n[5].Int64()), api.OK
}

func wantParse(t *testing.T, s string) {
	t.Helper()
	want, wantErr := plainParse(s)
	if got, err := stamp.Parse(s); got != want || err != wantErr {
		t.Errorf("Parse(%.150q) = %v, %d, not %v, %d", s, got, err, want, wantErr)
	}
}

const longest = "18446744073709551615.-9223372036854775808.18446744073709551615>-9223372036854775808:-9223372036854775808=-9223372036854775808"

// 1.9, 1.10
func TestTextExamples(t *testing.T) {
	for _, c := range []struct {
		e    api.Event
		want string
	}{
		{api.Event{}, "0.0.0>0:0=0"},
		{event(12, 3, 0, 4, 5, -7), "12.3.0>4:5=-7"},
		{event(1, 2, 3, 4, 5, 6), "1.2.3>4:5=6"},
		{event(10, -20, 30, -40, -50, -60), "10.-20.30>-40:-50=-60"},
		{event(most, -1<<63, most, -1<<63, -1<<63, -1<<63), longest},
		{event(1<<63, 1<<63-1, 1<<63, 1<<63-1, 1<<63-1, 1<<63-1), "9223372036854775808.9223372036854775807.9223372036854775808>9223372036854775807:9223372036854775807=9223372036854775807"},
	} {
		if got := stamp.Text(c.e); got != c.want {
			t.Errorf("Text(%v) = %s, not %s", c.e, got, c.want)
		}
		if got, err := stamp.Parse(c.want); got != c.e || err != api.OK {
			t.Errorf("Parse(%s) = %v, %d", c.want, got, err)
		}
	}
}

// 1.9, 1.10
func TestTextAndBack(t *testing.T) {
	r := thrown(8)
	for range 5000 {
		e := r.event()
		s := stamp.Text(e)
		if got, err := plainParse(s); got != e || err != api.OK {
			t.Fatalf("Text(%v) = %s", e, s)
		}
		if got, err := stamp.Parse(s); got != e || err != api.OK {
			t.Fatalf("Parse(%s) = %v, %d", s, got, err)
		}
	}
}

// 1.9, 1.10: every edge in every place.
func TestTextAtAllEdges(t *testing.T) {
	for _, i := range signedEdges() {
		for _, e := range []api.Event{
			event(uint64(i), 0, 0, 0, 0, 0), event(0, int(i), 0, 0, 0, 0), event(0, 0, uint64(i), 0, 0, 0),
			event(0, 0, 0, int(i), 0, 0), event(0, 0, 0, 0, int(i), 0), event(0, 0, 0, 0, 0, i),
		} {
			s := stamp.Text(e)
			if got, err := plainParse(s); got != e || err != api.OK {
				t.Fatalf("Text(%v) = %s", e, s)
			}
			wantParse(t, s)
		}
	}
}

// 1.10: each wrong number in each place.
func TestParseOfWrongNumbers(t *testing.T) {
	numbers := []string{
		"", "-", "+", "+1", "-0", "+0", "00", "01", "-01", "--1", "0x1", "1_0", "1e3", "1.0", ".1", " 1", "1 ", "\t1", "1\n", "a", "1a", "١",
		"9223372036854775808", "-9223372036854775809", "18446744073709551616", "99999999999999999999", "340282366920938463463374607431768211456", "-1",
	}
	marks := []string{".", ".", ">", ":", "=", ""}
	for place := range marks {
		for _, number := range numbers {
			s := ""
			for i, mark := range marks {
				if i == place {
					s += number + mark
				} else {
					s += "7" + mark
				}
			}
			wantParse(t, s)
		}
	}
}

// 1.10
func TestParseOfWrongForms(t *testing.T) {
	for _, s := range []string{
		"", " ", "0", "12", ".", ">", "..>:=", "12.3.0>4:5=-7 ", " 12.3.0>4:5=-7", "12.3.0>4:5=-7\n", "12.3.0>4:5=-7\x00", "12. 3.0>4:5=-7",
		"12.3.0>4:5", "12.3.0>4:5=", "12.3.0>4=5", "12.3>4:5=-7", "12.3.0>4:5=-7=", "12.3.0>4:5=-7=8", "12.3.0>4:5=6.7", "12.3.0.1>4:5=6", "12.3.0>4>4:5=6", "12.3.0>4:5:5=6",
		"12.3.0:4>5=6", "12>3.0.4:5=6", "12,3,0>4:5=6", "12.3.0>4:5=-7" + "12.3.0>4:5=-7", "012.3.0>4:5=7", "12.3.0>4:5=-0", "\xff", "12.3.0>4:5=\xff",
	} {
		if got, err := stamp.Parse(s); got != (api.Event{}) || err != api.ErrForm {
			t.Errorf("Parse(%q) = %v, %d", s, got, err)
		}
	}
}

// 1.10: a text of any length.
func TestParseOfLongTexts(t *testing.T) {
	const size = 1 << 20
	for _, s := range []string{
		strings.Repeat("0", size), strings.Repeat("9", size), strings.Repeat(".", size), strings.Repeat("-", size), strings.Repeat("12.3.0>4:5=-7", size/13),
		strings.Repeat("0", size) + "1.0.0>0:0=0", "0.0.0>0:0=" + strings.Repeat("1", size), "0.0.0>0:0=" + strings.Repeat("0", size),
		"0.0.0>0:0=0" + strings.Repeat(" ", size), "0.0.0>0:0=-" + strings.Repeat("0", size) + "1",
	} {
		if got, err := stamp.Parse(s); got != (api.Event{}) || err != api.ErrForm {
			t.Errorf("Parse(%.30q .., %d bytes) = %v, %d", s, len(s), got, err)
		}
	}
}

// 1.10: texts that are one letter away from an event's text.
func TestParseOfSpoiltTexts(t *testing.T) {
	for _, s := range []string{"12.3.0>4:5=-7", "0.-1.0>10:0=20", longest} {
		for i := range len(s) + 1 {
			for _, c := range "0179-+.>:= \tx" {
				wantParse(t, s[:i]+string(c)+s[i:])
				if i < len(s) {
					wantParse(t, s[:i]+string(c)+s[i+1:])
				}
			}
			if i < len(s) {
				wantParse(t, s[:i]+s[i+1:])
			}
			wantParse(t, s[:i])
		}
	}
}
