package lexer_test

import (
	"strings"
	"testing"

	"horizon/api"
	"horizon/lexer"
)

// 3.1
func TestExamplesOfTokens(t *testing.T) {
	for _, c := range []struct {
		src  string
		list []api.Token
	}{
		{"let x=10", []api.Token{tok(api.TLet, "let", 0, 1, 1), tok(api.TName, "x", 0, 1, 5), tok(api.TSet, "=", 0, 1, 6), tok(api.TNumber, "10", 10, 1, 7)}},
		{"a<=b<<c<d", []api.Token{tok(api.TName, "a", 0, 1, 1), tok(api.OpLe, "<=", 0, 1, 2), tok(api.TName, "b", 0, 1, 4), tok(api.OpShl, "<<", 0, 1, 5), tok(api.TName, "c", 0, 1, 7), tok(api.OpLt, "<", 0, 1, 8), tok(api.TName, "d", 0, 1, 9)}},
		{"===", []api.Token{tok(api.OpEq, "==", 0, 1, 1), tok(api.TSet, "=", 0, 1, 3)}},
		{"!!=", []api.Token{tok(api.OpNot, "!", 0, 1, 1), tok(api.OpNe, "!=", 0, 1, 2)}},
		{"&&&", []api.Token{tok(api.OpAnd, "&&", 0, 1, 1), tok(api.OpBitAnd, "&", 0, 1, 3)}},
		{">>=", []api.Token{tok(api.OpShr, ">>", 0, 1, 1), tok(api.TSet, "=", 0, 1, 3)}},
		{"# all\r\n\tme # \xff\n+", []api.Token{tok(api.TMe, "me", 0, 2, 2), tok(api.OpAdd, "+", 0, 3, 1)}},
		{"", nil},
		{" \n# x", nil},
		{"x 18446744073709551615", []api.Token{tok(api.TName, "x", 0, 1, 1), tok(api.TNumber, "18446744073709551615", 1<<64-1, 1, 3)}},
		{"7 007", []api.Token{tok(api.TNumber, "7", 7, 1, 1), tok(api.TNumber, "007", 7, 1, 3)}},
		{"a1_0", []api.Token{tok(api.TName, "a1_0", 0, 1, 1)}},
	} {
		wantScan(t, c.src, reading{list: c.list})
	}
}

// 3.1
func TestExamplesOfFaults(t *testing.T) {
	for _, c := range []struct {
		src       string
		code      api.Errno
		line, col int
	}{
		{"x 18446744073709551616", api.ErrNumber, 1, 3}, {"0x1F", api.ErrNumber, 1, 1}, {"1_0", api.ErrNumber, 1, 1}, {"12ab", api.ErrNumber, 1, 1}, {"1_000", api.ErrNumber, 1, 1},
		{"a\n _b", api.ErrByte, 2, 2}, {"a.b", api.ErrByte, 1, 2}, {"caf\u00e9", api.ErrByte, 1, 4}, {"a \x00", api.ErrByte, 1, 3},
		{"a b _ c", api.ErrByte, 1, 5},
		{strings.Repeat("a", 32), api.ErrName, 1, 1},
		{strings.Repeat("+", 16385), api.ErrTokens, 1, 16385},
		{strings.Repeat("+", 16384) + "_", api.ErrByte, 1, 16385},
	} {
		l, err := lexer.Scan(c.src)
		if len(l) != 0 {
			t.Errorf("Scan(%.40q) gives tokens beside an error", c.src)
		}
		wantFault(t, c.src, err, reading{nil, c.code, c.line, c.col})
	}
}

// 3.1: every word and mark by itself, with a name's letters behind it, and two of them side by side.
func TestEverySpelling(t *testing.T) {
	all := append(append(words[:0:0], words...), marks...)
	for _, a := range all {
		wantScan(t, a.text, reading{list: []api.Token{tok(a.kind, a.text, 0, 1, 1)}})
		for _, behind := range []string{"x", "_", "0", "=", " ", "#", "\xff"} {
			wantScan(t, a.text+behind, readSlowly(a.text+behind))
		}
		wantScan(t, strings.ToUpper(a.text), readSlowly(strings.ToUpper(a.text)))
		for _, b := range all {
			wantScan(t, a.text+b.text, readSlowly(a.text+b.text))
			wantScan(t, a.text+" "+b.text, reading{list: []api.Token{tok(a.kind, a.text, 0, 1, 1), tok(b.kind, b.text, 0, 1, len(a.text)+2)}})
		}
	}
}

// 3.1: capital letters make another name of a word.
func TestCapitals(t *testing.T) {
	for _, s := range []string{"If", "IF", "wHile", "Seed", "waiT"} {
		wantScan(t, s, reading{list: []api.Token{tok(api.TName, s, 0, 1, 1)}})
	}
}

// 3.1: each byte in front of, behind and inside of each sort of thing.
func TestEveryByte(t *testing.T) {
	for b := range 256 {
		s := string([]byte{byte(b)})
		for _, src := range []string{s, "a" + s, "7" + s, "+" + s, "<" + s, "|" + s, s + "a", s + "7", s + "=", "a b" + s + "c", "7" + s + "7", "#" + s + "a", "# " + s + "\nb", " " + s + s, "\n\t" + s, s + "\x80", "\xe2" + s, "\xe2\x82" + s} {
			wantScan(t, src, readSlowly(src))
		}
	}
}

// 3.1: runes that other alphabets call letters, digits and blanks are none here.
func TestForeignRunes(t *testing.T) {
	for _, s := range []string{"\u00e9", "\u0661", "\u00a0", "\u2028", "\ufeff", "\uff0b", "\u017f", "\u212a", "\U0001f600", "\ufffd", "\xed\xa0\x80", "\xc0\xa0", "\x85", "\v", "\f", "\x7f"} {
		wantScan(t, s, reading{nil, api.ErrByte, 1, 1})
		wantScan(t, "a"+s, reading{[]api.Token{tok(api.TName, "a", 0, 1, 1)}, api.ErrByte, 1, 2})
		wantScan(t, "7"+s+"7", reading{[]api.Token{tok(api.TNumber, "7", 7, 1, 1)}, api.ErrByte, 1, 2})
		wantScan(t, "#"+s+"_\n a", reading{list: []api.Token{tok(api.TName, "a", 0, 2, 2)}})
	}
}

// 3.1: all short texts of the bytes that mean something.
func TestAllShortTexts(t *testing.T) {
	pieces := []string{"a", "Z", "_", "0", "9", " ", "\n", "\r", "#", "<", "=", "!", "&", "|", ">", "+", ".", "\xc3", "if"}
	everyText(pieces, 4, func(src string) {
		if !t.Failed() {
			wantScan(t, src, readSlowly(src))
		}
	})
}

// 3.1: the edges of a number.
func TestNumbers(t *testing.T) {
	zeros := strings.Repeat("0", 65516)
	for _, c := range []struct {
		text string
		num  uint64
		code api.Errno
	}{
		{"0", 0, api.OK}, {"00", 0, api.OK}, {"9", 9, api.OK}, {"0010", 10, api.OK},
		{"9223372036854775807", 1<<63 - 1, api.OK}, {"9223372036854775808", 1 << 63, api.OK},
		{"9999999999999999999", 9999999999999999999, api.OK},
		{"10000000000000000000", 10000000000000000000, api.OK},
		{"18446744073709551614", 1<<64 - 2, api.OK}, {"18446744073709551615", 1<<64 - 1, api.OK},
		{"018446744073709551615", 1<<64 - 1, api.OK}, {zeros + "18446744073709551615", 1<<64 - 1, api.OK},
		{"18446744073709551616", 0, api.ErrNumber}, {"018446744073709551616", 0, api.ErrNumber},
		{"18446744073709551620", 0, api.ErrNumber}, {"19000000000000000000", 0, api.ErrNumber},
		{"20000000000000000000", 0, api.ErrNumber}, {"99999999999999999999", 0, api.ErrNumber},
		{"36893488147419103232", 0, api.ErrNumber}, {"100000000000000000000", 0, api.ErrNumber},
		{"184467440737095516150", 0, api.ErrNumber}, {zeros + "18446744073709551616", 0, api.ErrNumber},
		{strings.Repeat("9", 65536), 0, api.ErrNumber},
		{"1a", 0, api.ErrNumber}, {"1Z", 0, api.ErrNumber}, {"0_", 0, api.ErrNumber}, {"99999999999999999999x", 0, api.ErrNumber}, {"7if", 0, api.ErrNumber},
	} {
		want := reading{list: []api.Token{tok(api.TNumber, c.text, c.num, 1, 1)}}
		if c.code != api.OK {
			want = reading{nil, c.code, 1, 1}
		}
		wantScan(t, c.text, want)
	}
	wantScan(t, "1-1", reading{list: []api.Token{tok(api.TNumber, "1", 1, 1, 1), tok(api.OpSub, "-", 0, 1, 2), tok(api.TNumber, "1", 1, 1, 3)}})
	wantScan(t, "a 5 6b", reading{[]api.Token{tok(api.TName, "a", 0, 1, 1), tok(api.TNumber, "5", 5, 1, 3)}, api.ErrNumber, 1, 5})
}

// 3.1: a name at its bound and one past it.
func TestLongNames(t *testing.T) {
	for _, fill := range []string{"a", "Z", "_", "0"} {
		name := "q" + strings.Repeat(fill, 30)
		wantScan(t, " "+name+"+", reading{list: []api.Token{tok(api.TName, name, 0, 1, 2), tok(api.OpAdd, "+", 0, 1, 33)}})
		wantScan(t, "+ "+name+fill, reading{[]api.Token{tok(api.OpAdd, "+", 0, 1, 1)}, api.ErrName, 1, 3})
	}
	wantScan(t, strings.Repeat("while", 7), reading{nil, api.ErrName, 1, 1})
	wantScan(t, strings.Repeat("a", 65536), reading{nil, api.ErrName, 1, 1})
	wantScan(t, strings.Repeat("a", 32)+" _", reading{nil, api.ErrName, 1, 1})
}

// 3.1: a text at its bound, and one past it whatever is in it.
func TestLongTexts(t *testing.T) {
	wantScan(t, strings.Repeat(" ", 65536), reading{})
	wantScan(t, strings.Repeat("\n", 65535)+"a", reading{list: []api.Token{tok(api.TName, "a", 0, 65536, 1)}})
	wantScan(t, strings.Repeat(" ", 65535)+"a", reading{list: []api.Token{tok(api.TName, "a", 0, 1, 65536)}})
	wantScan(t, "#"+strings.Repeat("x", 65535), reading{})
	for _, s := range []string{" ", "\n", "_", "a", "9", "+", "#", "\xff"} {
		wantScan(t, strings.Repeat(s, 65537), reading{nil, api.ErrLong, 1, 1})
	}
	wantScan(t, "\n\n_"+strings.Repeat(" ", 65534), reading{nil, api.ErrLong, 1, 1})
	wantScan(t, strings.Repeat("a b ", 1<<20), reading{nil, api.ErrLong, 1, 1})
}

// 3.1: as many tokens as may be, and what stands behind them.
func TestManyTokens(t *testing.T) {
	full := strings.Repeat("a +\n", 8192)
	list := readSlowly(full).list
	if len(list) != 16384 {
		t.Fatalf("the text has %d tokens", len(list))
	}
	for _, rest := range []string{"", " ", "\n\n", "# x", " # _\n"} {
		wantScan(t, full+rest, reading{list: list})
	}
	for _, c := range []struct {
		rest      string
		code      api.Errno
		line, col int
	}{
		{"a", api.ErrTokens, 8193, 1}, {" +", api.ErrTokens, 8193, 2}, {"#\n\t7 _", api.ErrTokens, 8194, 2}, {"if", api.ErrTokens, 8193, 1},
		{" _", api.ErrByte, 8193, 2}, {"7a", api.ErrNumber, 8193, 1}, {"99999999999999999999", api.ErrNumber, 8193, 1},
		{strings.Repeat("a", 32), api.ErrName, 8193, 1}, {"+ _", api.ErrTokens, 8193, 1},
	} {
		wantScan(t, full+c.rest, reading{list, c.code, c.line, c.col})
	}
}

// 3.1: lines end with a newline alone; columns count bytes; what is in a comment counts for nothing.
func TestPlaces(t *testing.T) {
	for _, c := range []struct {
		src       string
		line, col int
	}{
		{"x", 1, 1}, {" x", 1, 2}, {"\tx", 1, 2}, {"\rx", 1, 2}, {"\nx", 2, 1}, {"\r\n\r\n x", 3, 2}, {"\n\r\rx", 2, 3},
		{"#\u20ac\u20ac\nx", 2, 1}, {"# a # b\n # c \r\n  x", 3, 3}, {"#\rx\n x", 2, 2}, {"#\n#\n#\nx", 4, 1}, {"\n \n  \n   x", 4, 4},
	} {
		wantScan(t, c.src, reading{list: []api.Token{tok(api.TName, "x", 0, c.line, c.col)}})
		wantScan(t, c.src+"# tail", reading{list: []api.Token{tok(api.TName, "x", 0, c.line, c.col)}})
	}
}

// 3.1, 0.4: two answers have nothing in common.
func TestScansApart(t *testing.T) {
	a, _ := lexer.Scan("a b c")
	b, _ := lexer.Scan("a b c")
	a[0].Text, a[1] = "q", api.Token{}
	_ = append(a[:1], api.Token{Kind: 99})
	if !sameList(b, readSlowly("a b c").list) {
		t.Errorf("one answer changed with another: %v", b)
	}
	_, e := lexer.Scan("_")
	_, f := lexer.Scan("_")
	e.(*api.PosError).Line = 9
	wantFault(t, "_", f, reading{nil, api.ErrByte, 1, 1})
}
