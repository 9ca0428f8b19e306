package grammar_test

import (
	"strconv"
	"strings"

	"horizon/api"
	"horizon/lexer"
)

// The grammar as DOC.md has it.
const rules = `
    scene     = { item }
    item      = setting | const | kinds | type | place | start
    setting   = ( "seed" | "look" | "end" | "budget" | "fuel" ) NUMBER
    const     = "const" NAME "=" expr
    kinds     = "kind" NAME { "," NAME }
    type      = "type" NAME "{" { var | on } "}"
    var       = "var" NAME [ "[" expr "]" ] [ "=" expr ]
    on        = "on" NAME "(" NAME ")" block
    place     = "place" NAME [ "[" expr "]" ] ":" NAME [ "(" give { "," give } ")" ]
    give      = NAME [ "[" expr "]" ] "=" expr
    start     = "start" NAME "(" expr ")" "to" NAME [ "[" expr "]" ] "at" NUMBER
    block     = "{" { statement } "}"
    statement = "let" NAME "=" expr
              | NAME "=" expr
              | NAME "[" expr "]" "=" expr
              | if
              | "while" expr block
              | "break" | "continue" | "return"
              | "send" NAME "(" expr ")" "to" expr "after" expr
              | "fail" expr
    if        = "if" expr block [ "else" ( if | block ) ]
    expr      = and { "||" and }
    and       = compare { "&&" compare }
    compare   = bitor [ ( "==" | "!=" | "<" | "<=" | ">" | ">=" ) bitor ]
    bitor     = bitxor { "|" bitxor }
    bitxor    = bitand { "^" bitand }
    bitand    = shift { "&" shift }
    shift     = sum { ( "<<" | ">>" ) sum }
    sum       = product { ( "+" | "-" ) product }
    product   = unary { ( "*" | "/" | "%" ) unary }
    unary     = ( "-" | "!" | "~" ) unary | atom
    atom      = NUMBER | NAME [ "[" expr "]" ] | "now" | "me" | "from"
              | ( "roll" | "wait" ) "(" expr ")" | ( "min" | "max" ) "(" expr "," expr ")" | "(" expr ")"
`

// piece of a rule: a token's kind, another rule's name, or pieces: a choice of rows of them.
type piece struct {
	kind   int
	rule   string
	rows   [][]piece
	often  bool // { }
	absent bool // { } or [ ]: it may be left out
}

// readRules is the grammar by its rules' names.
func readRules() map[string]piece {
	words := strings.Fields(rules)
	all := map[string]piece{}
	for len(words) > 0 {
		end := 2
		for end < len(words) && (end+1 == len(words) || words[end+1] != "=") {
			end++
		}
		body := words[2:end]
		rows := readRows(&body)
		all[words[0]] = piece{rows: rows}
		words = words[end:]
	}
	return all
}

func readRows(words *[]string) [][]piece {
	rows := [][]piece{nil}
	for len(*words) > 0 {
		w := (*words)[0]
		*words = (*words)[1:]
		var p piece
		switch {
		case w == ")" || w == "]" || w == "}":
			return rows
		case w == "|":
			rows = append(rows, nil)
			continue
		case w == "(" || w == "[" || w == "{":
			p = piece{rows: readRows(words), often: w == "{", absent: w != "("}
		case w == "NAME":
			p = piece{kind: api.TName}
		case w == "NUMBER":
			p = piece{kind: api.TNumber}
		case w[0] == '"':
			p = piece{kind: kindOf(strings.Trim(w, `"`))}
		default:
			p = piece{rule: w}
		}
		rows[len(rows)-1] = append(rows[len(rows)-1], p)
	}
	return rows
}

func kindOf(text string) int {
	for kind := api.TSeed; kind <= api.OpFlip; kind++ {
		if lexer.Mark(kind) == text {
			return kind
		}
	}
	panic("no token: " + text)
}

// way is what is still to come by one way of reading what has come: nil if nothing is.
type way struct {
	first piece
	rest  *way
}

// reader keeps all ways at once: each begins with a token, or is nil.
type reader struct {
	rules map[string]piece
	ways  []*way
}

func newReader() reader {
	r := reader{rules: readRules()}
	r.ways = r.unfold(&way{piece{rule: "scene"}, nil}, nil)
	return r
}

// front is where every reading begins.
var front = newReader()

// unfold adds to all the ways that begin with a token and that w may be read as.
func (r reader) unfold(w *way, all []*way) []*way {
	if w == nil || w.first.kind != 0 {
		return append(all, w)
	}
	p := w.first
	if p.rule != "" {
		p = r.rules[p.rule]
	}
	if p.absent {
		all = r.unfold(w.rest, all)
	}
	for _, row := range p.rows {
		rest := w.rest
		if p.often {
			rest = w
		}
		for i := len(row) - 1; i >= 0; i-- {
			rest = &way{row[i], rest}
		}
		all = r.unfold(rest, all)
	}
	return all
}

// read takes one more token; false if it does not fit.
func (r reader) read(tok api.Token) (reader, bool) {
	if tok.Kind == api.TName && lexer.Word(tok.Text) != api.TName {
		return r, false
	}
	next := reader{rules: r.rules}
	for _, w := range r.ways {
		if w != nil && w.first.kind == tok.Kind {
			next.ways = r.unfold(w.rest, next.ways)
		}
	}
	return next, len(next.ways) > 0
}

// whole tells whether what was read is a scene.
func (r reader) whole() bool {
	for _, w := range r.ways {
		if w == nil {
			return true
		}
	}
	return false
}

// Whether a token of this kind ends an operand (an index may follow a name).
func endsOperand(kind int) bool {
	switch kind {
	case api.TName, api.TNumber, api.TNow, api.TMe, api.TFrom, api.TClose, api.TCloseRow:
		return true
	}
	return false
}

// depths has for each token how deep the place behind it is, and whether it opens something: told by the tokens beside it alone. What is open is kept as a text: ( for a bracket, - for a unary operator, e for an if behind an else.
func depths(l []api.Token) (deep []int, opens []bool) {
	open := ""
	ended := func(what string) { open = strings.TrimRight(open, what) }
	for i, tok := range l {
		before, after := 0, 0
		if i > 0 {
			before = l[i-1].Kind
		}
		if i+1 < len(l) {
			after = l[i+1].Kind
		}
		ahead := len(open)
		switch tok.Kind {
		case api.TOpen, api.TOpenRow, api.TOpenBody:
			open += "("
		case api.TClose, api.TCloseRow, api.TEndBody:
			open = open[:max(0, len(open)-1)]
		case api.OpNot, api.OpFlip:
			open += "-"
		case api.OpSub:
			if !endsOperand(before) {
				open += "-"
			}
		case api.TIf:
			if before == api.TElse {
				open += "e"
			}
		}
		opens = append(opens, len(open) > ahead)
		if endsOperand(tok.Kind) && (tok.Kind != api.TName || after != api.TOpenRow) {
			ended("-")
		}
		if tok.Kind == api.TEndBody && after != api.TElse {
			ended("e")
		}
		deep = append(deep, len(open))
	}
	return deep, opens
}

// verdict is what the chapter's words say of a list of at most MaxTokens tokens: the error and its place.
func verdict(l []api.Token) at {
	deep, opens := depths(l)
	r := front
	for i, tok := range l {
		var ok bool
		if r, ok = r.read(tok); !ok {
			return at{tok.Line, tok.Col, api.ErrWant}
		}
		if opens[i] && deep[i] > api.MaxDeep {
			return at{tok.Line, tok.Col, api.ErrDeep}
		}
	}
	if !r.whole() {
		last := l[len(l)-1]
		return at{last.Line, last.Col + len(last.Text), api.ErrEnds}
	}
	return at{}
}

var strengths = map[int]int{
	api.OpOr: 1, api.OpAnd: 2, api.OpEq: 3, api.OpNe: 3, api.OpLt: 3, api.OpLe: 3, api.OpGt: 3, api.OpGe: 3,
	api.OpBitOr: 4, api.OpBitXor: 5, api.OpBitAnd: 6, api.OpShl: 7, api.OpShr: 7, api.OpAdd: 8, api.OpSub: 8,
	api.OpMul: 9, api.OpDiv: 9, api.OpMod: 9,
}

func (k *knot) strength() int {
	switch k.node.Kind {
	case api.NBinary:
		return strengths[k.node.Op]
	case api.NUnary:
		return 10
	}
	return 11
}

// needs tells which operands of a knot stand in brackets.
func (k *knot) needs(i int) bool {
	own, kid := k.strength(), k.kids[i].strength()
	switch {
	case k.node.Kind == api.NUnary:
		return kid < 10
	case i == 0:
		return kid < own || kid == 3 && own == 3
	}
	return kid <= own
}

// text is an expression in the one layout.
func (k *knot) text() string {
	kid := func(i int) string {
		if (k.node.Kind == api.NBinary || k.node.Kind == api.NUnary) && k.needs(i) {
			return "(" + k.kids[i].text() + ")"
		}
		return k.kids[i].text()
	}
	switch k.node.Kind {
	case api.NNumber:
		return strconv.FormatUint(k.node.Num, 10)
	case api.NName:
		return k.node.Name
	case api.NIndex:
		return k.node.Name + "[" + kid(0) + "]"
	case api.NBinary:
		return kid(0) + " " + lexer.Mark(k.node.Op) + " " + kid(1)
	case api.NUnary:
		return lexer.Mark(k.node.Op) + kid(0)
	case api.NNow:
		return "now"
	case api.NMe:
		return "me"
	case api.NFrom:
		return "from"
	case api.NRoll:
		return "roll(" + kid(0) + ")"
	case api.NWait:
		return "wait(" + kid(0) + ")"
	case api.NLeast:
		return "min(" + kid(0) + ", " + kid(1) + ")"
	case api.NMost:
		return "max(" + kid(0) + ", " + kid(1) + ")"
	}
	return "?"
}

// inside is lines in curly brackets behind the last line of head.
func inside(head []string, kids []*knot) []string {
	head[len(head)-1] += " {"
	for _, kid := range kids {
		for _, line := range kid.lines() {
			head = append(head, "  "+line)
		}
	}
	return append(head, "}")
}

// row is an index in its brackets, if there is one.
func row(l []*knot) string {
	if len(l) == 0 {
		return ""
	}
	return "[" + l[0].text() + "]"
}

// lines is an item, a var, an on or a statement, line by line, as it stands where no { is open.
func (k *knot) lines() []string {
	name, kids, op := k.node.Name, k.kids, k.node.Op
	one := func(parts ...string) []string { return []string{strings.Join(parts, "")} }
	switch k.node.Kind {
	case api.NSetting:
		return one(lexer.Mark(op), " ", strconv.FormatUint(k.node.Num, 10))
	case api.NConst:
		return one("const ", name, " = ", kids[0].text())
	case api.NKinds:
		var names []string
		for _, kid := range kids {
			names = append(names, kid.node.Name)
		}
		return one("kind ", strings.Join(names, ", "))
	case api.NType:
		return inside(one("type ", name), kids)
	case api.NVar:
		s := "var " + name
		if op == 1 || op == 3 {
			s += row(kids)
		}
		if op == 2 || op == 3 {
			s += " = " + kids[len(kids)-1].text()
		}
		return one(s)
	case api.NOn:
		return inside(one("on ", name, "(", kids[0].text(), ")"), kids[1].kids)
	case api.NPlace:
		s := "place " + name + row(kids[:op]) + " : " + kids[op].text()
		var gives []string
		for _, g := range kids[op+1:] {
			gives = append(gives, g.node.Name+row(g.kids[:g.node.Op])+" = "+g.kids[g.node.Op].text())
		}
		if len(gives) > 0 {
			s += " (" + strings.Join(gives, ", ") + ")"
		}
		return one(s)
	case api.NStart:
		return one("start ", name, "(", kids[0].text(), ") to ", kids[1].text(), row(kids[2:]), " at ", strconv.FormatUint(k.node.Num, 10))
	case api.NLet:
		return one("let ", name, " = ", kids[0].text())
	case api.NSet:
		return one(name, " = ", kids[0].text())
	case api.NSetAt:
		return one(name, row(kids), " = ", kids[1].text())
	case api.NWhile:
		return inside(one("while ", kids[0].text()), kids[1].kids)
	case api.NBreak:
		return one("break")
	case api.NContinue:
		return one("continue")
	case api.NReturn:
		return one("return")
	case api.NSend:
		return one("send ", name, "(", kids[0].text(), ") to ", kids[1].text(), " after ", kids[2].text())
	case api.NFail:
		return one("fail ", kids[0].text())
	case api.NIf:
		l := inside(one("if ", kids[0].text()), kids[1].kids)
		if len(kids) == 3 && kids[2].node.Kind == api.NIf {
			rest := kids[2].lines()
			l[len(l)-1] += " else " + rest[0]
			return append(l, rest[1:]...)
		}
		if len(kids) == 3 {
			l[len(l)-1] += " else"
			return inside(l, kids[2].kids)
		}
		return l
	}
	return one("?")
}

// layout is a scene's text in the one layout.
func (k *knot) layout() string {
	s := ""
	for _, kid := range k.kids {
		s += strings.Join(kid.lines(), "\n") + "\n"
	}
	return s
}
