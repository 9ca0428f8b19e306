package lexer_test

import (
	"strings"
	"testing"

	"horizon/api"
	"horizon/lexer"
)

func wantSpell(t *testing.T, what string, l []api.Token, text string, code api.Errno) {
	t.Helper()
	got, e := lexer.Spell(l)
	if e != code || got != text {
		t.Errorf("%s: Spell = %.60q (%d bytes), %d, want %.60q (%d bytes), %d", what, got, len(got), e, text, len(text), code)
	}
}

// spellSlowly is the chapter's 3.3, word by word, for lists whose text is short.
func spellSlowly(l []api.Token) (string, api.Errno) {
	like := func(a, b api.Token) bool { return a.Kind == b.Kind && a.Text == b.Text && a.Num == b.Num }
	text := ""
	for i, one := range l {
		alone := readSlowly(one.Text)
		if alone.code != api.OK || len(alone.list) != 1 || !like(alone.list[0], one) || one.Line < 1 || one.Col < 1 {
			return "", api.ErrForm
		}
		line, col := 1, 1
		if i > 0 {
			line, col = l[i-1].Line, l[i-1].Col+len(l[i-1].Text)
			if one.Line < line || one.Line == line && one.Col < col {
				return "", api.ErrForm
			}
			if one.Line == line && one.Col == col {
				both := readSlowly(l[i-1].Text + one.Text)
				if both.code != api.OK || len(both.list) != 2 || !like(both.list[0], l[i-1]) || !like(both.list[1], one) {
					return "", api.ErrForm
				}
			}
		}
		for ; line < one.Line; line++ {
			text, col = text+"\n", 1
		}
		for ; col < one.Col; col++ {
			text += " "
		}
		text += one.Text
	}
	return text, api.OK
}

// 3.3
func TestExamplesOfSpell(t *testing.T) {
	l, _ := lexer.Scan("a  +\tb # c\n\n  d")
	wantSpell(t, "scanned", l, "a  + b\n\n  d", api.OK)
	for _, c := range []struct {
		list []api.Token
		text string
		code api.Errno
	}{
		{nil, "", api.OK},
		{[]api.Token{}, "", api.OK},
		{[]api.Token{tok(api.TName, "a", 0, 1, 1), tok(api.TName, "b", 0, 1, 2)}, "", api.ErrForm},
		{[]api.Token{tok(api.TName, "a", 0, 1, 1), tok(api.OpAdd, "+", 0, 1, 2)}, "a+", api.OK},
		{[]api.Token{tok(api.OpEq, "==", 0, 1, 1), tok(api.TSet, "=", 0, 1, 3)}, "===", api.OK},
		{[]api.Token{tok(api.TSet, "=", 0, 1, 1), tok(api.OpEq, "==", 0, 1, 2)}, "", api.ErrForm},
		{[]api.Token{tok(api.TNumber, "7", 8, 1, 1)}, "", api.ErrForm},
		{[]api.Token{tok(api.TName, "if", 0, 1, 1)}, "", api.ErrForm},
		{[]api.Token{tok(api.TName, "a", 0, 70000, 1)}, "", api.ErrLong},
	} {
		wantSpell(t, "example", c.list, c.text, c.code)
	}
}

// 3.3: what Scan gave is spelled, no longer than it was, and scanned again to the same tokens and places.
func TestSpellOfScanned(t *testing.T) {
	pieces := []string{"ab", "if", "10", "<", "=", "|", " ", "\t", "\n", "#c\n", "#", "+"}
	everyText(pieces, 5, func(src string) {
		if t.Failed() {
			return
		}
		l, err := lexer.Scan(src)
		if err != nil {
			return
		}
		text, code := lexer.Spell(l)
		want, _ := spellSlowly(l)
		if code != api.OK || text != want || len(text) > len(src) {
			t.Fatalf("Spell of %q = %q, %d, want %q", src, text, code, want)
		}
		again, err := lexer.Scan(text)
		if err != nil || !sameList(l, again) {
			t.Fatalf("%q spelled as %q is read as %v", src, text, again)
		}
		if strings.Contains(text, " \n") || strings.HasSuffix(text, " ") || strings.HasSuffix(text, "\n") {
			t.Fatalf("%q spelled as %q has blanks too many", src, text)
		}
	})
}

// 3.3: all words and marks, names and numbers, side by side, touching, overlapping, apart, on the next line and the line above.
func TestSpellOfPairs(t *testing.T) {
	pool := []api.Token{tok(api.TName, "x", 0, 0, 0), tok(api.TName, "x_1", 0, 0, 0), tok(api.TNumber, "7", 7, 0, 0), tok(api.TNumber, "007", 7, 0, 0), tok(api.TName, strings.Repeat("n", 31), 0, 0, 0)}
	for _, w := range words {
		pool = append(pool, tok(w.kind, w.text, 0, 0, 0))
	}
	for _, m := range marks {
		pool = append(pool, tok(m.kind, m.text, 0, 0, 0))
	}
	for _, a := range pool {
		for _, b := range pool {
			a.Line, a.Col = 2, 3
			for _, place := range [][2]int{{2, 3 + len(a.Text)}, {2, 2 + len(a.Text)}, {2, 4 + len(a.Text)}, {3, 1}, {3, 4}, {5, 3}, {1, 90}, {2, 1}, {2, 3}} {
				b.Line, b.Col = place[0], place[1]
				text, code := spellSlowly([]api.Token{a, b})
				wantSpell(t, a.Text+" "+b.Text, []api.Token{a, b}, text, code)
			}
		}
	}
}

// 3.3: three in a row: each is held against the one ahead of it alone.
func TestSpellOfThree(t *testing.T) {
	marks := []api.Token{tok(api.TSet, "=", 0, 0, 0), tok(api.OpEq, "==", 0, 0, 0), tok(api.OpLt, "<", 0, 0, 0), tok(api.OpShl, "<<", 0, 0, 0), tok(api.TName, "a", 0, 0, 0), tok(api.TNumber, "1", 1, 0, 0), tok(api.OpBitOr, "|", 0, 0, 0)}
	for _, a := range marks {
		for _, b := range marks {
			for _, c := range marks {
				for gaps := range 4 {
					a.Line, b.Line, c.Line = 1, 1, 1
					a.Col = 2
					b.Col = a.Col + len(a.Text) + gaps/2
					c.Col = b.Col + len(b.Text) + gaps%2
					l := []api.Token{a, b, c}
					text, code := spellSlowly(l)
					wantSpell(t, a.Text+" "+b.Text+" "+c.Text, l, text, code)
				}
			}
		}
	}
}

// 3.3: what is no token by itself, alone and behind good ones.
func TestSpellOfNoTokens(t *testing.T) {
	bad := []api.Token{
		{}, tok(api.TName, "", 0, 3, 1), tok(0, "a", 0, 3, 1), tok(api.TNumber, "a", 0, 3, 1), tok(-1, "a", 0, 3, 1), tok(api.TIf, "a", 0, 3, 1),
		tok(api.TName, "a", 1, 3, 1), tok(api.TIf, "if", 1, 3, 1), tok(api.OpAdd, "+", 1, 3, 1), tok(api.TName, "if", 0, 3, 1), tok(api.TIf, "If", 0, 3, 1),
		tok(api.TName, "a ", 0, 3, 1), tok(api.TName, " a", 0, 3, 1), tok(api.TName, "a#", 0, 3, 1), tok(api.TName, "a\n", 0, 3, 1), tok(api.TName, "\ta", 0, 3, 1), tok(api.TName, "#\na", 0, 3, 1),
		tok(api.TName, "a b", 0, 3, 1), tok(api.TName, "a+", 0, 3, 1), tok(api.TName, "_a", 0, 3, 1), tok(api.TName, "a\xff", 0, 3, 1), tok(api.TName, "a.b", 0, 3, 1), tok(api.TName, "#a", 0, 3, 1), tok(api.TName, " ", 0, 3, 1),
		tok(api.TName, strings.Repeat("a", 32), 0, 3, 1),
		tok(api.TNumber, "7", 8, 3, 1), tok(api.TNumber, "7a", 7, 3, 1), tok(api.TNumber, "-7", 7, 3, 1), tok(api.TNumber, "7 ", 7, 3, 1), tok(api.TNumber, "18446744073709551616", 0, 3, 1), tok(api.TNumber, "18446744073709551616", 1<<64-1, 3, 1), tok(api.TNumber, "", 0, 3, 1), tok(api.TName, "7", 7, 3, 1), tok(api.TNumber, strings.Repeat("0", 65537), 0, 3, 1),
		tok(api.TSet, "==", 0, 3, 1), tok(api.OpEq, "=", 0, 3, 1), tok(api.OpEq, "===", 0, 3, 1), tok(api.OpEq, "= =", 0, 3, 1), tok(api.OpAdd, "++", 0, 3, 1), tok(api.OpOr, "|", 0, 3, 1), tok(api.OpFlip, ";", 0, 3, 1), tok(0, ";", 0, 3, 1),
		tok(api.TName, "a", 0, 0, 1), tok(api.TName, "a", 0, 3, 0), tok(api.TName, "a", 0, -1, 1), tok(api.TName, "a", 0, 3, -1), tok(api.TName, "a", 0, -mostInt-1, 1), tok(api.TName, "a", 0, 3, -mostInt-1), tok(api.TName, "a", 0, 0, 0),
	}
	good := tok(api.TName, "g", 0, 2, 1)
	late := tok(api.TName, "z", 0, 9, 1)
	far := tok(api.TName, "z", 0, 70000, 1)
	for _, b := range bad {
		wantSpell(t, "alone "+b.Text, []api.Token{b}, "", api.ErrForm)
		wantSpell(t, "behind "+b.Text, []api.Token{good, b}, "", api.ErrForm)
		wantSpell(t, "ahead "+b.Text, []api.Token{b, late}, "", api.ErrForm)
		wantSpell(t, "between "+b.Text, []api.Token{good, b, far}, "", api.ErrForm)
	}
}

// 3.3: the bound of the text, in each of the ways in which it is reached: columns, lines, texts; and with places that an int just holds.
func TestSpellTooLong(t *testing.T) {
	a := func(line, col int) api.Token { return tok(api.TName, "a", 0, line, col) }
	zeros := func(n, line, col int) api.Token { return tok(api.TNumber, strings.Repeat("0", n), 0, line, col) }
	plus := func(line, col int) api.Token { return tok(api.OpAdd, "+", 0, line, col) }
	for i, c := range []struct {
		list []api.Token
		code api.Errno
	}{
		{[]api.Token{a(1, 65536)}, api.OK}, {[]api.Token{a(65536, 1)}, api.OK}, {[]api.Token{a(65500, 37)}, api.OK}, {[]api.Token{zeros(65536, 1, 1)}, api.OK}, {[]api.Token{zeros(65530, 4, 4)}, api.OK},
		{[]api.Token{a(1, 1), a(1, 65536)}, api.OK}, {[]api.Token{a(1, 1), a(65535, 1)}, api.OK}, {[]api.Token{a(3, 9), a(3, 65534)}, api.OK}, {[]api.Token{zeros(65535, 1, 1), plus(1, 65536)}, api.OK}, {[]api.Token{zeros(40000, 1, 1), zeros(25535, 1, 40002)}, api.OK},
		{[]api.Token{plus(1, 1), zeros(65535, 1, 2)}, api.OK},
		{[]api.Token{a(1, 65537)}, api.ErrLong}, {[]api.Token{a(65537, 1)}, api.ErrLong}, {[]api.Token{a(65500, 38)}, api.ErrLong}, {[]api.Token{zeros(65536, 1, 2)}, api.ErrLong}, {[]api.Token{zeros(65536, 2, 1)}, api.ErrLong}, {[]api.Token{zeros(65530, 4, 5)}, api.ErrLong},
		{[]api.Token{a(1, 1), a(1, 65537)}, api.ErrLong}, {[]api.Token{a(1, 1), a(65536, 1)}, api.ErrLong}, {[]api.Token{a(3, 9), a(3, 65535)}, api.ErrLong}, {[]api.Token{zeros(65535, 1, 1), plus(1, 65537)}, api.ErrLong}, {[]api.Token{zeros(40000, 1, 1), zeros(25536, 1, 40002)}, api.ErrLong}, {[]api.Token{zeros(65536, 1, 1), plus(2, 1)}, api.ErrLong}, {[]api.Token{zeros(65536, 1, 1), plus(1, 65538)}, api.ErrLong}, {[]api.Token{plus(1, 1), zeros(65536, 1, 3)}, api.ErrLong},
		{[]api.Token{a(1, mostInt)}, api.ErrLong}, {[]api.Token{a(mostInt, 1)}, api.ErrLong}, {[]api.Token{a(mostInt, mostInt)}, api.ErrLong}, {[]api.Token{a(1, 1), a(mostInt, mostInt)}, api.ErrLong}, {[]api.Token{a(1, mostInt), a(2, 1)}, api.ErrLong}, {[]api.Token{a(1, mostInt), a(mostInt, mostInt)}, api.ErrLong}, {[]api.Token{a(mostInt, 1), a(mostInt, mostInt)}, api.ErrLong}, {[]api.Token{a(1<<32+1, 1<<32+1)}, api.ErrLong}, {[]api.Token{a(1<<62, 1<<62), a(1<<62, mostInt)}, api.ErrLong}, {[]api.Token{a(mostInt, mostInt-1), plus(mostInt, mostInt)}, api.ErrLong},
		{[]api.Token{zeros(65536, 1, 1), plus(1, 65537)}, api.ErrForm}, {[]api.Token{plus(1, 1), zeros(65536, 1, 2)}, api.ErrForm}, {[]api.Token{plus(7, 9), zeros(65536, 7, 10)}, api.ErrForm}, {[]api.Token{zeros(65537, 1, 1)}, api.ErrForm},
		{[]api.Token{a(1, mostInt), plus(1, mostInt)}, api.ErrForm}, {[]api.Token{a(1, mostInt), plus(1, 1)}, api.ErrForm}, {[]api.Token{zeros(65536, 1, mostInt), plus(1, 1)}, api.ErrForm}, {[]api.Token{a(mostInt, mostInt), a(1, 1)}, api.ErrForm}, {[]api.Token{a(70000, 1), a(70000, 1)}, api.ErrForm}, {[]api.Token{a(70000, 1), a(1, 1)}, api.ErrForm}, {[]api.Token{a(1, 70000), a(1, 70001)}, api.ErrForm},
	} {
		text, code := lexer.Spell(c.list)
		if code != c.code || code != api.OK && text != "" {
			t.Errorf("row %d: %d bytes, %d, want %d", i, len(text), code, c.code)
			continue
		}
		if code == api.OK {
			l, err := lexer.Scan(text)
			if err != nil || len(text) != 65536 || !sameList(l, c.list) {
				t.Errorf("row %d: %d bytes, read as %d tokens, %v", i, len(text), len(l), err)
			}
		}
	}
}

// 3.3: as many tokens as may be; one more is told ahead of all else.
func TestSpellOfMany(t *testing.T) {
	text := strings.TrimSuffix(strings.Repeat("a +\n", 8192), "\n")
	l := readSlowly(text).list
	wantSpell(t, "full", l, text, api.OK)
	wantSpell(t, "one more", append(l, tok(api.TName, "a", 0, 9000, 1)), "", api.ErrTokens)
	wantSpell(t, "no tokens, too many", make([]api.Token, 16385), "", api.ErrTokens)
	wantSpell(t, "no tokens", make([]api.Token, 16384), "", api.ErrForm)
	far := make([]api.Token, 16385)
	for i := range far {
		far[i] = tok(api.TName, "a", 0, 70000+i, 1)
	}
	wantSpell(t, "far and too many", far, "", api.ErrTokens)
	wantSpell(t, "far", far[:16384], "", api.ErrLong)
	far[16383].Num = 1
	wantSpell(t, "far, the last one bad", far[:16384], "", api.ErrForm)
}

// 3.3, 0.4: the list stays as it is, and so does what lies behind its end.
func TestSpellLeavesItsList(t *testing.T) {
	l, _ := lexer.Scan("a = b\n  + 7")
	room := append(append([]api.Token{}, l...), tok(77, "spare", 7, 7, 7))
	wantSpell(t, "with spare room", room[:len(l)], "a = b\n  + 7", api.OK)
	if !sameList(room[:len(l)], l) || room[len(l)] != tok(77, "spare", 7, 7, 7) {
		t.Errorf("Spell changed its list: %v", room)
	}
}
