package lexer_test

import (
	"strings"
	"testing"

	"horizon/api"
	"horizon/lexer"
)

// 3.4
func TestWord(t *testing.T) {
	for _, w := range words {
		if got := lexer.Word(w.text); got != w.kind {
			t.Errorf("Word(%q) = %d, want %d", w.text, got, w.kind)
		}
		for _, s := range []string{w.text + "x", w.text + "_", w.text + "0", strings.ToUpper(w.text[:1]) + w.text[1:], w.text[:len(w.text)-1] + "Z", "q" + w.text} {
			if got := lexer.Word(s); got != api.TName {
				t.Errorf("Word(%q) = %d, want TName", s, got)
			}
		}
		for _, s := range []string{w.text + " ", " " + w.text, w.text + "+", w.text + "#", w.text + "\n", "_" + w.text, "7" + w.text, w.text + "\u00e9", w.text + " " + w.text} {
			if got := lexer.Word(s); got != 0 {
				t.Errorf("Word(%q) = %d, want 0", s, got)
			}
		}
	}
	for _, m := range marks {
		if got := lexer.Word(m.text); got != 0 {
			t.Errorf("Word(%q) = %d, want 0", m.text, got)
		}
	}
	for _, s := range []string{"", "_", "_x", "a b", "7", "0", "\u00e9", "\xff", "a\x00", "a-b", "#", "#if", "\n"} {
		if got := lexer.Word(s); got != 0 {
			t.Errorf("Word(%q) = %d, want 0", s, got)
		}
	}
}

// 3.4: every byte as a name, and as a name's second byte.
func TestWordBytes(t *testing.T) {
	for b := range 256 {
		s := string([]byte{byte(b)})
		first, second := 0, 0
		if strings.Contains(letters, s) {
			first, second = api.TName, api.TName
		}
		if strings.Contains("0123456789_", s) {
			second = api.TName
		}
		if got := lexer.Word(s); got != first {
			t.Errorf("Word(%q) = %d, want %d", s, got, first)
		}
		if got := lexer.Word("q" + s); got != second {
			t.Errorf("Word(%q) = %d, want %d", "q"+s, got, second)
		}
	}
}

// 3.4: names at their bound and one past it.
func TestWordLength(t *testing.T) {
	for n, want := range map[int]int{1: api.TName, 30: api.TName, 31: api.TName, 32: 0, 33: 0, 1 << 20: 0} {
		if got := lexer.Word(strings.Repeat("w", n)); got != want {
			t.Errorf("Word of %d bytes = %d, want %d", n, got, want)
		}
	}
}

// 3.5
func TestMark(t *testing.T) {
	spelled := map[int]string{}
	for _, w := range words {
		spelled[w.kind] = w.text
	}
	for _, m := range marks {
		spelled[m.kind] = m.text
	}
	if len(spelled) != 60 {
		t.Fatalf("the tables have %d kinds", len(spelled))
	}
	for kind := -300; kind <= 300; kind++ {
		if got := lexer.Mark(kind); got != spelled[kind] {
			t.Errorf("Mark(%d) = %q, want %q", kind, got, spelled[kind])
		}
	}
	for _, kind := range []int{api.TName, api.TNumber, mostInt, -mostInt - 1, 1 << 32, 1<<32 + api.TIf, 256 + api.OpAdd} {
		if got := lexer.Mark(kind); got != "" {
			t.Errorf("Mark(%d) = %q", kind, got)
		}
	}
}
