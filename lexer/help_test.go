package lexer_test

import (
	"errors"
	"strings"
	"testing"

	"horizon/api"
	"horizon/lexer"
)

const mostInt = 1<<63 - 1

// The chapter's tables.
var words = []struct {
	text string
	kind int
}{
	{"seed", api.TSeed}, {"look", api.TLook}, {"end", api.TEnd}, {"budget", api.TBudget},
	{"fuel", api.TFuel}, {"const", api.TConst}, {"kind", api.TKind}, {"type", api.TType},
	{"var", api.TVar}, {"on", api.TOn}, {"place", api.TPlace}, {"start", api.TStart},
	{"let", api.TLet}, {"if", api.TIf}, {"else", api.TElse}, {"while", api.TWhile},
	{"break", api.TBreak}, {"continue", api.TContinue}, {"return", api.TReturn}, {"send", api.TSend},
	{"to", api.TTo}, {"after", api.TAfter}, {"at", api.TAt}, {"fail", api.TFail},
	{"now", api.TNow}, {"me", api.TMe}, {"from", api.TFrom}, {"roll", api.TRoll},
	{"min", api.TMin}, {"max", api.TMax}, {"wait", api.TWait},
}

var marks = []struct {
	text string
	kind int
}{
	{"(", api.TOpen}, {")", api.TClose}, {"[", api.TOpenRow}, {"]", api.TCloseRow},
	{"{", api.TOpenBody}, {"}", api.TEndBody}, {",", api.TComma}, {":", api.TColon},
	{"=", api.TSet}, {"||", api.OpOr}, {"&&", api.OpAnd}, {"==", api.OpEq},
	{"!=", api.OpNe}, {"<", api.OpLt}, {"<=", api.OpLe}, {">", api.OpGt},
	{">=", api.OpGe}, {"|", api.OpBitOr}, {"^", api.OpBitXor}, {"&", api.OpBitAnd},
	{"<<", api.OpShl}, {">>", api.OpShr}, {"+", api.OpAdd}, {"-", api.OpSub},
	{"*", api.OpMul}, {"/", api.OpDiv}, {"%", api.OpMod}, {"!", api.OpNot},
	{"~", api.OpFlip},
}

func tok(kind int, text string, num uint64, line, col int) api.Token {
	return api.Token{Kind: kind, Text: text, Num: num, Line: line, Col: col}
}

// reading is what a text is said to be: tokens, and the error behind them with its place.
type reading struct {
	list      []api.Token
	code      api.Errno
	line, col int
}

// readSlowly is the reading of a text by the chapter's words, byte by byte, each time by what stands ahead.
func readSlowly(src string) reading {
	if len(src) > api.MaxText {
		return reading{nil, api.ErrLong, 1, 1}
	}
	var list []api.Token
	for i := 0; i < len(src); {
		if strings.IndexByte(" \t\r\n", src[i]) >= 0 {
			i++
			continue
		}
		if src[i] == '#' {
			for i < len(src) && src[i] != 10 {
				i++
			}
			continue
		}
		line := 1 + strings.Count(src[:i], "\n")
		col := i - strings.LastIndexByte(src[:i], '\n')
		one, code := readOne(src[i:])
		if code == api.OK && len(list) == 16384 {
			code = api.ErrTokens
		}
		if code != api.OK {
			return reading{list, code, line, col}
		}
		one.Line, one.Col = line, col
		list = append(list, one)
		i += len(one.Text)
	}
	return reading{list: list}
}

const letters = "abcdefghijklmnopqrstuvwxyzABCDEFGHIJKLMNOPQRSTUVWXYZ"

func readOne(s string) (api.Token, api.Errno) {
	if strings.IndexByte(letters, s[0]) >= 0 {
		text := s[:len(s)-len(strings.TrimLeft(s, letters+"0123456789_"))]
		if len(text) > 31 {
			return api.Token{}, api.ErrName
		}
		for _, w := range words {
			if w.text == text {
				return api.Token{Kind: w.kind, Text: text}, api.OK
			}
		}
		return api.Token{Kind: api.TName, Text: text}, api.OK
	}
	if strings.IndexByte("0123456789", s[0]) >= 0 {
		return readDigits(s)
	}
	best := api.Token{}
	for _, m := range marks {
		if strings.HasPrefix(s, m.text) && len(m.text) > len(best.Text) {
			best = api.Token{Kind: m.kind, Text: m.text}
		}
	}
	if best.Kind == 0 {
		return best, api.ErrByte
	}
	return best, api.OK
}

func readDigits(s string) (api.Token, api.Errno) {
	rest := strings.TrimLeft(s, "0123456789")
	text := s[:len(s)-len(rest)]
	if rest != "" && strings.IndexByte(letters+"_", rest[0]) >= 0 {
		return api.Token{}, api.ErrNumber
	}
	digits := strings.TrimLeft(text, "0")
	const largest = "18446744073709551615"
	if len(digits) > len(largest) || len(digits) == len(largest) && digits > largest {
		return api.Token{}, api.ErrNumber
	}
	num := uint64(0)
	for i := range len(digits) {
		num = 10*num + uint64(digits[i]-'0')
	}
	return api.Token{Kind: api.TNumber, Text: text, Num: num}, api.OK
}

func sameList(a, b []api.Token) bool {
	if len(a) != len(b) {
		return false
	}
	for i := range a {
		if a[i] != b[i] {
			return false
		}
	}
	return true
}

// wantFault holds an error to be the *api.PosError itself, around the bare Errno.
func wantFault(t *testing.T, what string, err error, want reading) {
	t.Helper()
	p, ok := err.(*api.PosError)
	if !ok || p == nil || p.Err != error(want.code) || p.Line != want.line || p.Col != want.col {
		t.Errorf("%.60q: error %v, want %d at %d:%d", what, err, want.code, want.line, want.col)
	}
	if !errors.Is(err, want.code) {
		t.Errorf("%.60q: errors.Is does not see %d", what, want.code)
	}
}

// wantScan holds Scan and Each of a text to a reading.
func wantScan(t *testing.T, src string, want reading) {
	t.Helper()
	l, err := lexer.Scan(src)
	if want.code == api.OK {
		if err != nil || !sameList(l, want.list) {
			t.Errorf("Scan(%.60q) = %v, %v, want %v", src, l, err, want.list)
		}
	} else {
		if len(l) != 0 {
			t.Errorf("Scan(%.60q) gives %d tokens beside an error", src, len(l))
		}
		wantFault(t, src, err, want)
	}
	wantEach(t, src, want)
}

func wantEach(t *testing.T, src string, want reading) {
	t.Helper()
	var list []api.Token
	faults := 0
	for one, err := range lexer.Each(src) {
		if faults > 0 {
			t.Errorf("Each(%.60q) goes on behind its error", src)
		}
		if err == nil {
			list = append(list, one)
			continue
		}
		faults++
		if one != (api.Token{}) {
			t.Errorf("Each(%.60q) gives %v beside an error", src, one)
		}
		wantFault(t, src, err, want)
	}
	if !sameList(list, want.list) || (faults == 1) != (want.code != api.OK) {
		t.Errorf("Each(%.60q) gives %d tokens and %d errors, want %d and the error %d", src, len(list), faults, len(want.list), want.code)
	}
}

// everyText gives all texts of at most so many pieces.
func everyText(pieces []string, most int, give func(string)) {
	give("")
	if most == 0 {
		return
	}
	for _, p := range pieces {
		everyText(pieces, most-1, func(rest string) { give(p + rest) })
	}
}
