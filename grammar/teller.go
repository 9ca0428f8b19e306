package grammar

import (
	"strconv"
	"strings"

	"horizon/api"
	"horizon/lexer"
)

// teller lays out a well shaped tree, and counts its own tokens and how deep they go as it does.
type teller struct {
	nodes   []api.Node
	text    []byte
	tokens  int
	deep    int
	deepest int
	// How many { are open.
	bodies int
}

// put lets a text that is too long grow no more: how much it is too long, nobody asks.
func (t *teller) put(s string) {
	if len(t.text) <= api.MaxText {
		t.text = append(t.text, s...)
	}
}

func (t *teller) token(s string) {
	t.tokens++
	t.put(s)
}

func (t *teller) mark(kind int) { t.token(lexer.Mark(kind)) }

func (t *teller) number(n uint64) { t.token(strconv.FormatUint(n, 10)) }

// deeper goes with each token behind which it is one deeper.
func (t *teller) deeper() {
	t.deep++
	t.deepest = max(t.deepest, t.deep)
}

func (t *teller) open(kind int) {
	t.mark(kind)
	t.deeper()
}

func (t *teller) shut(kind int) {
	t.mark(kind)
	t.deep--
}

// indent need not go deeper than a tree may that is printed at all.
func (t *teller) indent() { t.put(strings.Repeat("  ", min(t.bodies, api.MaxDeep))) }

// lines has each of these on a line of its own.
func (t *teller) lines(kids []int, one func(kid int)) {
	for _, kid := range kids {
		t.indent()
		one(kid)
		t.put("\n")
	}
}

func (t *teller) body(kids []int, one func(kid int)) {
	t.put(" ")
	t.open(api.TOpenBody)
	t.put("\n")
	t.bodies++
	t.lines(kids, one)
	t.bodies--
	t.indent()
	t.shut(api.TEndBody)
}

// row has these side by side, with commas between them.
func (t *teller) row(kids []int, one func(kid int)) {
	for i, kid := range kids {
		if i > 0 {
			t.mark(api.TComma)
			t.put(" ")
		}
		one(kid)
	}
}

// bracketed has them as a row in round brackets.
func (t *teller) bracketed(kids []int, one func(kid int)) {
	t.open(api.TOpen)
	t.row(kids, one)
	t.shut(api.TClose)
}

// index has the first of these, if there is one, in its brackets.
func (t *teller) index(kids []int) {
	if len(kids) > 0 {
		t.open(api.TOpenRow)
		t.expression(kids[0])
		t.shut(api.TCloseRow)
	}
}

// between has a mark or a word with a space on either side.
func (t *teller) between(kind int) {
	t.put(" ")
	t.mark(kind)
	t.put(" ")
}

// headed has the word of a line, and what it is about.
func (t *teller) headed(word int, name string) {
	t.mark(word)
	t.put(" ")
	t.token(name)
}

func (t *teller) value(kid int) {
	t.between(api.TSet)
	t.expression(kid)
}

func (t *teller) name(kid int) { t.token(t.nodes[kid].Name) }
