package scope_test

import (
	"fmt"
	"slices"
	"strings"
	"testing"

	"horizon/api"
	"horizon/grammar"
	"horizon/lexer"
)

// held tells how many of some texts were held against the slow reading, and how they came out.
type held struct{ scenes, faulty, many int }

// checkRead holds Check against the chapter's words, read slowly.
func (h *held) checkRead(t *testing.T, tree api.Tree, src string) {
	t.Helper()
	b := open(tree)
	want := b.faults()
	switch {
	case len(want) == 0:
		h.scenes++
	case len(want) > api.MaxTold:
		h.many++
		want = want[:api.MaxTold]
	default:
		h.faulty++
	}
	s, got := checked(t, tree)
	if !slices.Equal(got, want) {
		t.Fatalf("%s: %v, not %v", src, got, want)
	}
	if want != nil {
		return
	}
	// Told as texts, an empty list and none look the same.
	if got, want := fmt.Sprintf("%+v", s), fmt.Sprintf("%+v", b.scene()); got != want {
		t.Fatalf("%s:\n%s\nnot\n%s", src, got, want)
	}
}

// wide are scenes in which every kind of node stands, and names of every sort hide others.
func wide() []string {
	return []string{
		"look 5 end 9 seed 7 const A = 2 const B = A * 3 - 1 kind k , l type T { var r [ A ] = B var s = A on k ( d ) { let a = d r [ a ] = s while a { let a = r [ 0 ] if a { break } else if d { continue } else { s = a } } send l ( a ) to p after A } on l ( e ) { fail e + q [ B ] } } place p : T ( r [ 1 ] = A , s = 4 ) place q [ A ] : T ( r = 3 ) start k ( A ) to q at 1 start l ( 4 ) to q [ 1 ] at 2 budget 5 fuel 6",
		"start k ( A ) to p at 3 place p [ 2 ] : U ( v = 1 , w [ 0 ] = 2 ) type U { on k ( v ) { w [ v ] = v + A let w = 1 w = w } var v = 4 var w [ 2 ] } kind k const A = 1 type T { var A on k ( p ) { A = p } } place q : T place r [ A ] : T ( A = A ) look 1 end 2",
		"kind k type k { var v [ 2 ] var v on k ( d ) { v [ 0 ] = d } on k ( k ) { if d { let v = v [ 1 ] let v = v } v = k } } type T { var k [ 3 ] var d = 1 } place d : T ( k [ 1 ] = 1 , k = 2 , d = 3 ) place d [ 2 ] : k ( v = 1 ) start k ( 1 ) to d [ 1 ] at 0 const v = d const d = 1 const w = v / 0 look 1 end 1",
	}
}

// 5.2 to 5.10: wide scenes, each name in the place of each, each number in the place of each, each token left out or there twice.
func TestReadWithOneChange(t *testing.T) {
	var h held
	for _, src := range wide() {
		words := strings.Fields(src)
		others := []string{"zz", "0", "1", "2", "64", "65", "9223372036854775807", "9223372036854775808", "18446744073709551615", "1 / 0", "now", "- 1", "A + 1"}
		for _, w := range words {
			if lexer.Word(w) == api.TName && !slices.Contains(others, w) {
				others = append(others, w)
			}
		}
		for i, w := range words {
			for _, o := range append(others, "", w+" "+w) {
				changed := slices.Clone(words)
				changed[i] = o
				text := strings.Join(changed, " ")
				if tree, err := grammar.Parse(text); err == nil {
					h.checkRead(t, tree, text)
				}
			}
		}
	}
	if h.scenes < 400 || h.faulty < 1300 {
		t.Errorf("%+v", h)
	}
}

// 5.2 to 5.10: wide scenes, the items and what lies in blocks in another order.
func TestReadInOtherOrders(t *testing.T) {
	var h held
	c := chance(52)
	for _, src := range wide() {
		tree := parsed(t, src)
		for range 2000 {
			other := c.reordered(tree)
			text, code := grammar.Print(other)
			if code != api.OK {
				t.Fatal(code)
			}
			h.checkRead(t, parsed(t, text), text)
		}
	}
	if h.scenes < 1000 || h.faulty < 2500 {
		t.Errorf("%+v", h)
	}
}

// reordered is a tree in which some lists of kids have changed their order, where any order will do.
func (c *chance) reordered(t api.Tree) api.Tree {
	var made api.Tree
	var lay func(at int) int
	lay = func(at int) int {
		n := t.Nodes[at]
		here := len(made.Nodes)
		made.Nodes = append(made.Nodes, n)
		kids := slices.Clone(n.Kids)
		switch n.Kind {
		case api.NScene, api.NKinds, api.NType, api.NBlock:
			for range c.below(3) {
				if len(kids) > 0 {
					i, j := c.below(len(kids)), c.below(len(kids))
					kids[i], kids[j] = kids[j], kids[i]
				}
			}
		}
		for i := range kids {
			kids[i] = lay(kids[i])
		}
		made.Nodes[here].Kids = kids
		return here
	}
	lay(0)
	return made
}

// The names that thrown texts have, by their sort; a name of another sort is thrown now and then.
func (c *chance) name(sort string) string {
	if c.below(12) == 0 {
		return strings.Fields("A B C k l T U p q v r s a b d zz")[c.below(16)]
	}
	names := strings.Fields(map[string]string{"const": "A B C", "kind": "k l m", "type": "T U", "place": "p q s", "var": "v r s", "local": "a b v", "word": "d e v"}[sort])
	return names[c.below(len(names))]
}

func (c *chance) constant() string {
	atoms := []string{"0", "1", "2", "3", "1", "2", c.name("const"), c.name("const")}
	if c.below(20) == 0 {
		atoms = []string{"now", "9223372036854775808", "60", "64", "65", c.name("var")}
	}
	return c.expression(c.below(3), atoms)
}

func (c *chance) size() string {
	switch c.below(10) {
	case 0, 1:
		return "[" + c.constant() + "]"
	case 2, 3, 4:
		return "[" + []string{"1", "2", "2", "3", "30", "63", "64"}[c.below(7)] + "]"
	}
	return ""
}

// text is made of nothing but what is thrown; or of a few such items ahead of, between and behind good ones.
func (c *chance) text() string {
	if c.below(2) == 0 {
		s := begin
		for range 3 + c.below(5) {
			s += c.item() + "\n"
		}
		return s
	}
	items := []string{"look 5", "end 9", "const A = 2 const B = A - 1", "kind k, l", "type T { var v var r[A] }", "type U { var s = B on k(d) { let a = d fail a } }", "place p : T", "place q[B + 2] : U"}
	for range 1 + c.below(3) {
		items = slices.Insert(items, c.below(len(items)+1), c.item())
	}
	return strings.Join(items, "\n")
}

func (c *chance) item() string {
	switch c.below(9) {
	case 0:
		return []string{"look", "end", "seed", "budget", "fuel"}[c.below(5)] + " " + []string{"0", "1", "4096", "4097"}[c.below(4)]
	case 1, 2:
		return "const " + c.name("const") + " = " + c.constant()
	case 3:
		return "kind " + c.name("kind") + []string{"", ", " + c.name("kind")}[c.below(2)]
	case 4, 5:
		s := "type " + c.name("type") + " {"
		for range c.below(5) {
			s += c.member()
		}
		return s + " }"
	case 6, 7:
		return c.place()
	}
	return "start " + c.name("kind") + "(" + c.constant() + ") to " + c.name("place") + c.size() + " at 3"
}

func (c *chance) place() string {
	s := "place " + c.name("place") + c.size() + " : " + c.name("type")
	var gives []string
	for range c.below(4) {
		gives = append(gives, c.name("var")+c.size()+" = "+c.constant())
	}
	if gives != nil {
		s += " (" + strings.Join(gives, ", ") + ")"
	}
	return s
}

func (c *chance) member() string {
	if c.below(2) == 0 {
		return " var " + c.name("var") + c.size() + []string{"", " = " + c.constant()}[c.below(2)]
	}
	return " on " + c.name("kind") + "(" + c.name("word") + ")" + c.block(2)
}

func (c *chance) block(deep int) string {
	s := " {"
	for range c.below(4) {
		s += " " + c.statement(deep)
	}
	return s + " }"
}

// atom is a name of some sort, with an index or without one, or another atom.
func (c *chance) atom() string {
	sort := []string{"local", "local", "word", "var", "const", "place"}[c.below(6)]
	switch c.below(8) {
	case 0:
		return []string{"now", "me", "from", "7", "9223372036854775808", "roll(a)"}[c.below(6)]
	case 1, 2:
		return c.name(sort) + "[" + c.name("local") + "]"
	}
	return c.name(sort)
}

func (c *chance) handled() string { return c.expression(c.below(2), []string{c.atom(), c.atom()}) }

func (c *chance) statement(deep int) string {
	which := c.below(12)
	if deep == 0 {
		// None in which a block lies.
		which %= 6
	}
	switch which {
	case 0, 1, 2:
		return "let " + c.name("local") + " = " + c.handled()
	case 3, 4:
		return c.name([]string{"local", "var"}[c.below(2)]) + " = " + c.handled()
	case 5:
		return c.name("var") + "[" + c.handled() + "] = " + c.handled()
	case 6:
		return "if " + c.handled() + c.block(deep-1) + []string{"", " else" + c.block(deep-1), " else if " + c.handled() + c.block(deep-1)}[c.below(3)]
	case 7, 8:
		return "while " + c.handled() + c.block(deep-1)
	case 9:
		return []string{"break", "continue", "return"}[c.below(3)]
	case 10:
		return "send " + c.name("kind") + "(" + c.handled() + ") to " + c.handled() + " after " + c.handled()
	}
	return "fail " + c.handled()
}

// 5.2 to 5.10: texts of all kinds, thrown.
func TestReadThrown(t *testing.T) {
	var h held
	c := chance(53)
	for range 30000 {
		text := c.text()
		h.checkRead(t, parsed(t, text), text)
	}
	if h.scenes < 1000 || h.faulty < 15000 || h.many < 1000 {
		t.Errorf("%+v", h)
	}
}
