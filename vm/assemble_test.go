package vm_test

import (
	"math/big"
	"regexp"
	"slices"
	"strconv"
	"strings"
	"testing"

	"horizon/api"
	"horizon/vm"
)

// at is a fault at a place of a text.
type at struct {
	line, col int
	code      api.Errno
}

// placed is what a *api.PosError tells, which must be one itself, with an Errno in it.
func placed(t *testing.T, err error) at {
	t.Helper()
	p, ok := err.(*api.PosError)
	if !ok {
		t.Fatalf("%T (%v) is no PosError", err, err)
	}
	code, ok := p.Err.(api.Errno)
	if !ok {
		t.Fatalf("%T (%v) is no Errno", p.Err, p.Err)
	}
	return at{p.Line, p.Col, code}
}

// checkWrong holds Assemble against what is wrong with a text.
func checkWrong(t *testing.T, s string, want at) {
	t.Helper()
	p, err := vm.Assemble(s)
	if err == nil {
		t.Errorf("Assemble(%.300q) = %s", s, few(p))
		return
	}
	if got := placed(t, err); got != want || !sameProgram(p, api.Program{}) {
		t.Errorf("Assemble(%.300q) = %s, %v, not %v", s, few(p), got, want)
	}
}

func checkRight(t *testing.T, s string, want api.Program) {
	t.Helper()
	p, err := vm.Assemble(s)
	if err != nil || !sameProgram(p, want) {
		t.Errorf("Assemble(%.300q) = %s, %v, not %s", s, few(p), err, few(want))
	}
}

// checkMarked holds Assemble against texts in which @ and an error's number stand ahead of the word that is wrong.
func checkMarked(t *testing.T, list ...string) {
	t.Helper()
	for _, marked := range list {
		ahead, behind, ok := strings.Cut(marked, "@")
		number, rest, _ := strings.Cut(behind, " ")
		code, err := strconv.Atoi(number)
		if !ok || err != nil {
			t.Fatalf("%.300q has no mark", marked)
		}
		checkWrong(t, ahead+rest, at{1 + strings.Count(ahead, "\n"), len(ahead) - strings.LastIndex(ahead, "\n"), api.Errno(code)})
	}
}

var (
	wordForm   = regexp.MustCompile(`[^ \t\r]+`)
	nameForm   = regexp.MustCompile(`^[a-zA-Z][a-zA-Z0-9_]{0,30}$`)
	numberForm = regexp.MustCompile(`^-?[0-9]+$`)
)

func asNumber(s string) (int64, bool) {
	n, ok := new(big.Int).SetString(s, 10)
	if !ok || !numberForm.MatchString(s) || !n.IsInt64() {
		return 0, false
	}
	return n.Int64(), true
}

// listing is a text that is read by the chapter's words.
type listing struct {
	p      api.Program
	labels map[string]int
	stood  []string
	later  []func() // puts a label's place in
	wrong  *at
}

// fault keeps the first thing that is wrong.
func (l *listing) fault(line, col int, code api.Errno) {
	if l.wrong == nil {
		l.wrong = &at{line, col, code}
	}
}

// assembled is 6.9. All lines are read to their ends: of all that is wrong the first is kept.
func assembled(s string) (api.Program, *at) {
	if len(s) > 65536 {
		return api.Program{}, &at{1, 1, api.ErrLong}
	}
	l := &listing{labels: map[string]int{}}
	for i, text := range strings.Split(s, "\n") {
		if hash := strings.IndexByte(text, '#'); hash >= 0 {
			text = text[:hash]
		}
		l.line(i+1, text, wordForm.FindAllStringIndex(text, -1))
		if l.wrong != nil {
			return api.Program{}, l.wrong
		}
	}
	for _, put := range l.later {
		put()
	}
	if l.wrong != nil {
		return api.Program{}, l.wrong
	}
	return l.p, nil
}

func (l *listing) line(number int, text string, spans [][]int) {
	var words []string
	for _, span := range spans {
		words = append(words, text[span[0]:span[1]])
	}
	wrong := func(word int, code api.Errno) { l.fault(number, spans[word][0]+1, code) }
	head := 0
	if len(words) > 0 && words[0][len(words[0])-1] == ':' {
		head = 1
		name := words[0][:len(words[0])-1]
		if !nameForm.MatchString(name) {
			wrong(0, api.ErrName)
		}
		if _, ok := l.labels[name]; ok {
			wrong(0, api.ErrTwice)
		}
		l.labels[name] = len(l.p.Code)
	}
	if head == len(words) {
		return
	}
	sort := words[head]
	op, isOp := ops[sort]
	isHead := sort == "words" || sort == "locals" || sort == "entry"
	if !isOp && !isHead {
		wrong(head, api.ErrOp)
		return
	}
	if isHead && slices.Contains(l.stood, sort) {
		wrong(head, api.ErrTwice)
	}
	if isOp && len(l.p.Code) >= 4096 {
		wrong(head, api.ErrBig)
	}
	l.stood = append(l.stood, sort)
	in := api.Instr{Op: op}
	for i := head + 1; i < len(words); i++ {
		l.argument(&in, sort, i-head, words[i], func(code api.Errno) { wrong(i, code) })
	}
	given := len(words) - head - 1
	if isOp {
		l.p.Code = append(l.p.Code, in)
		wants := strings.Count(strings.TrimPrefix(told(api.Program{Code: []api.Instr{{Op: op}}}), "words 0\nlocals 0\nentry\n"), " ")
		if given < wants {
			wrong(head, api.ErrWant)
		}
	} else if sort != "entry" && given == 0 {
		wrong(head, api.ErrWant)
	}
}

// argument number which, from 1 on, of a head.
func (l *listing) argument(in *api.Instr, head string, which int, word string, wrong func(api.Errno)) {
	n, isNumber := asNumber(word)
	isName := nameForm.MatchString(word)
	label := func(put func(place int)) {
		l.later = append(l.later, func() {
			place, ok := l.labels[word]
			if !ok {
				wrong(api.ErrUnknown)
			} else if head == "entry" && place == 4096 {
				wrong(api.ErrArg)
			}
			put(place)
		})
	}
	switch {
	case head == "words" || head == "locals":
		limit := map[string]int64{"words": 64, "locals": 32}[head]
		switch {
		case which > 1:
			wrong(api.ErrForm)
		case !isNumber:
			wrong(api.ErrNumber)
		case n < 0 || n > limit:
			wrong(api.ErrArg)
		case head == "words":
			l.p.Words = int(n)
		default:
			l.p.Locals = int(n)
		}
	case head == "entry":
		place := len(l.p.Entry)
		l.p.Entry = append(l.p.Entry, int(n))
		switch {
		case which > 32:
			wrong(api.ErrCount)
		case word == "-":
			l.p.Entry[place] = -1
		case isName:
			label(func(to int) { l.p.Entry[place] = to })
		case !isNumber:
			wrong(api.ErrNumber)
		case n < 0 || n > 4095:
			wrong(api.ErrArg)
		}
	case which > 2:
		wrong(api.ErrForm)
	case which == 1 && isName && (head == "jump" || head == "zero"):
		place := len(l.p.Code)
		label(func(to int) { l.p.Code[place].A = int64(to) })
	case !isNumber:
		wrong(api.ErrNumber)
	case which == 1:
		in.A = n
	default:
		in.B = n
	}
}

// 6.9: the chapter's listing, and its example 10.
func TestAssembleExamples(t *testing.T) {
	checkRight(t, "words 1\nlocals 1\nentry main -\nmain: load 0       # place 0\ndata\nadd\nsave 0             # the word grows by the data\npush 7\nme\ndata\nsend 1             # place 7: data 7, to me, after the data\nstop\n", adder(t))
	checkMarked(t, "@40 push", "push 1 2 @12 3", "push @32 x", "jump @51 x", "a: @64 a:", "a:\n@50 a:", "@33 1:", "words @63 65", "@40 words")
	checkRight(t, "jump 7", api.Program{Code: []api.Instr{{Op: api.IJump, A: 7}}})
	checkRight(t, "", api.Program{})
	checkRight(t, "pop 0 5", api.Program{Code: []api.Instr{{Op: api.IPop, B: 5}}})
}

// 6.9: where a label stands.
func TestAssembleLabelPlaces(t *testing.T) {
	stop := api.Instr{Op: api.IStop}
	jump := func(a int64) api.Instr { return api.Instr{Op: api.IJump, A: a} }
	for _, c := range []struct {
		s    string
		want api.Program
	}{
		{"a:", api.Program{}}, {"a: stop", api.Program{Code: []api.Instr{stop}}}, {"a: jump a", api.Program{Code: []api.Instr{jump(0)}}}, {"jump a\na:", api.Program{Code: []api.Instr{jump(1)}}},
		{"stop\na:\n\n# b:\nb:\nc: jump b\njump a\njump c\nd:\njump d", api.Program{Code: []api.Instr{stop, jump(1), jump(1), jump(1), jump(4)}}},
		{"entry b a - 1\na: words 1\nstop\nb: locals 2", api.Program{Words: 1, Locals: 2, Entry: []int{1, 0, -1, 1}, Code: []api.Instr{stop}}},
		{"x: entry x y\nstop\ny:", api.Program{Entry: []int{0, 1}, Code: []api.Instr{stop}}},
		{"words: jump words", api.Program{Code: []api.Instr{jump(0)}}}, {"jump:\njump jump", api.Program{Code: []api.Instr{jump(0)}}}, {"stop\nentry: entry entry", api.Program{Entry: []int{1}, Code: []api.Instr{stop}}},
		{"aB_9z: zero aB_9z 7", api.Program{Code: []api.Instr{{Op: api.IZero, B: 7}}}}, {strings.Repeat("q", 31) + ": jump " + strings.Repeat("q", 31), api.Program{Code: []api.Instr{jump(0)}}},
		{"A:\nstop\na: jump A\njump a", api.Program{Code: []api.Instr{stop, jump(0), jump(1)}}},
	} {
		checkRight(t, c.s, c.want)
	}
}

// checkRead holds Assemble against the chapter's words, read slowly.
func checkRead(t *testing.T, s string) api.Errno {
	t.Helper()
	want, wrong := assembled(s)
	if wrong != nil {
		checkWrong(t, s, *wrong)
		return wrong.code
	}
	checkRight(t, s, want)
	return api.OK
}

// 6.9: every byte as the first, a middle and the last one of a name, where a label stands and where it is named.
func TestAssembleNames(t *testing.T) {
	count := map[api.Errno]int{}
	for c := range 256 {
		b := string([]byte{byte(c)})
		for _, name := range []string{b, b + "q", "q" + b, "q" + b + "q"} {
			for _, s := range []string{name + ":", "stop\n" + name + ": zero " + name, "entry " + name, "entry " + name + "\nstop\n" + name + ":", "jump " + name} {
				count[checkRead(t, s)]++
			}
		}
	}
	// The slow reading itself must know what a name is: three of the texts are right with each.
	letters, inner := 2*26, 2*26+10+1
	if least := 3 * (letters + letters + inner + inner); count[api.OK] < least {
		t.Errorf("%v, not %d right ones", count, least)
	}
}

// 6.9: each thing that may be wrong, at the word at which it is told.
func TestAssembleWrong(t *testing.T) {
	name32 := strings.Repeat("q", 32)
	checkMarked(t,
		// Labels.
		"@33 :", "@33 ::", "@33 1a:", "@33 _a:", "@33 a-b:", "@33 a:b:", "@33 a::", "@33 -:", "@33 é:", "@33 aé:", "@33 a\xff:", "@33 a\x00:", "@33 a.b: stop", "@33 "+name32+":", "stop\n  @33 "+name32+": stopp x", "words: @64 locals: entry:",
		"a:\n@50 a: x", "a: stop\n\tstop\nb:\n \t@50 a: stop 1 2 3", "a:\n@33 a:a:", "@33 a:: a: x",
		// Heads.
		"@64 x", "@64 STOP", "@64 Words", "@64 7", "@64 -", "@64 stop\xff", "@64 stop\v", "@64 push1 x", "a: @64 b: c", "a: @64 :", "stop\n\n @64 é", "@64 a#:", "@64 \x00", "@64 word 1", "@64 st:op", "@64 a:stop",
		"words 1\n@50 words", "words 1\n@50 words x y", "locals 1\n@50 locals 33", "entry\n@50 entry", "entry 1\na: @50 entry x", "entry\n @50 entry"+strings.Repeat(" x", 40), "words 1\nlocals 1\nentry\n@50 locals 1",
		// words and locals.
		"@40 words", "@40 locals # 1", "words @63 65", "words @63 -1", "words @63 9223372036854775807", "words @32 9223372036854775808", "words @32 x", "words @32 -", "words @32 +1", "words @32 1x", "words @32 1:", "words 64 @12 1", "words 64 @12 x", "words @63 65 x", "words @32 x 65", "words 1 @12 2 3",
		"locals @63 33", "locals @63 -1", "locals @63 9223372036854775807", "locals @32 9223372036854775808", "locals @32 x", "locals 32 @12 1", "locals @63 33 1",
		// entry.
		"entry @63 4096", "entry @63 -1", "entry 1 @63 -1 x", "entry - @32 --", "entry @32 1x", "entry @32 _", "entry @32 "+name32, "entry @32 a:", "entry @32 9223372036854775808", "entry @63 9223372036854775807", "entry"+strings.Repeat(" -", 32)+" @55 -", "entry"+strings.Repeat(" 0", 32)+" @55 ?!", "entry"+strings.Repeat(" 0", 31)+" @63 4096 -", "entry"+strings.Repeat(" x", 32)+" @55 x",
		// Instructions.
		"@40 push", "@40 load", "@40 save", "@40 get", "@40 put", "@40 jump", "@40 zero", "@40 send", "@40 loadx", "@40 loadx 1", "@40 savex", "@40 savex 1", "@40 row", "@40 row 1",
		"push 1 2 @12 3", "stop 1 2 @12 x", "row 1 2 @12 3 4", "push @32 x", "push @32 -", "push @32 +1", "push @32 --1", "push @32 -+1", "push @32 1_0", "push @32 0x1", "push @32 1.", "push @32 ٣", "push @32 9223372036854775808", "push @32 -9223372036854775809", "push 1 @32 x", "loadx @32 a 1", "loadx 1 @32 a", "row 0 @32 b", "send @32 a", "stop @32 stop",
		"jump @32 "+name32, "jump @32 1a", "jump @32 a: 1", "jump a @32 a", "zero 1 @32 a", "zero a 1 @12 1", "a: jump @32 -", "jump 1 2 @12 a",
		"push @32 x\nwords 65", "@40 push # 1", "@40 push#1", "push @32 x#1", "load\t@32 \x7f",
		// Labels that are not there: behind all else, in the order of the text.
		"jump @51 x", "jump @51 x\njump y", "entry @51 x\njump y", "jump @51 y\nentry x", "entry a @51 b c\na:", "zero @51 A\na:", "a: jump a\njump @51 b", "entry x\n@40 push", "jump x\nstop\n@64 x", "entry x\njump @32 1x", "zero @51 x 5", "entry - 0 @51 q -",
	)
}

// 6.9: each line is read from its left, and the lines in their order.
func TestAssembleTellsTheFirst(t *testing.T) {
	checkMarked(t,
		"@33 1: x", "a:\n@50 a: x", "a: @64 x 1", "words 1\n@50 words x", "push @32 x y z", "push 1 @32 x y", "words @32 x y",
		"stop\n@64 x\npush", "jump nowhere\n@40 words", "@40 loadx 1\npush x", "loadx @32 x",
	)
}

// 6.9: as many instructions as may be.
func TestAssembleMostCode(t *testing.T) {
	full := strings.Repeat("stop\n", api.MaxCode)
	code := make([]api.Instr, api.MaxCode)
	checkRight(t, full, api.Program{Code: code})
	checkRight(t, full+"words 3\nentry 4095\nx:", api.Program{Words: 3, Entry: []int{4095}, Code: code})
	checkMarked(t, full+"@70 stop", full+"\n x: @70 push", full+"@70 push 1 2 3", full+"@64 stopp", full+"@33 1: stop", full+"x:\n@50 x: stop", full+"words @32 x\nstop")
	// A label behind the last place may be jumped to, and not begun at.
	checkMarked(t, "entry @63 x\n"+full+"x:", full+"entry - @63 x\nx:", full+"x:\nentry 0 @63 x y", full+"entry @51 y x\nx:")
	most := "jump x\n" + strings.Repeat("stop\n", api.MaxCode-1)
	want := slices.Clone(code)
	want[0] = api.Instr{Op: api.IJump, A: api.MaxCode}
	checkRight(t, most+"x:", api.Program{Code: want})
	want[0].A--
	checkRight(t, "entry x\njump x\n"+strings.Repeat("stop\n", api.MaxCode-2)+"x: stop", api.Program{Entry: []int{api.MaxCode - 1}, Code: want})
}

// 6.9: as many entries as may be, as many labels as there is room for.
func TestAssembleMany(t *testing.T) {
	want := api.Program{Entry: slices.Repeat([]int{-1}, api.MaxKinds)}
	checkRight(t, "entry"+strings.Repeat(" -", api.MaxKinds), want)
	for i := range want.Entry {
		want.Entry[i] = 0
	}
	checkRight(t, "a:\nentry"+strings.Repeat(" a", api.MaxKinds), want)
	s := ""
	for i := range 9000 {
		s += "l" + strconv.Itoa(i) + ":\n"
	}
	checkRight(t, s, api.Program{})
	checkMarked(t, s+"@50 l0:", s+"jump @51 l9000")
}

// 6.9: numbers may have zeros in front, and words, locals and entry may have a sign in front of 0.
func TestAssembleNumbers(t *testing.T) {
	zeros := strings.Repeat("0", 30000)
	checkRight(t, "words 0064\nlocals -0\nentry -000 0004095\npush "+zeros+"7 -"+zeros+"8", api.Program{Words: 64, Entry: []int{0, 4095}, Code: []api.Instr{{Op: api.IPush, A: 7, B: -8}}})
	checkRight(t, "push 9223372036854775807 -9223372036854775808", api.Program{Code: []api.Instr{{Op: api.IPush, A: 1<<63 - 1, B: -1 << 63}}})
	checkMarked(t, "push @32 "+strings.Repeat("9", 60000))
}

// 6.9: blanks, comments, newlines.
func TestAssembleBlanks(t *testing.T) {
	want := api.Program{Words: 2, Entry: []int{0}, Code: []api.Instr{{Op: api.IPush, A: 1}, {Op: api.IJump, A: 1}}}
	for _, s := range []string{
		"words 2\nentry 0\npush 1\nx: jump x", "words 2\nentry 0\npush 1\nx: jump x\n", "\r\n\twords\t2\r\n\n \r\t\nentry\r0\r\n  push  1  \nx:\n\r\n\tjump x # \n#", "#words 3\nwords 2#3\nentry 0#\npush 1 # push\nx:#jump\njump x#\xff\x00#\n#x", "push 1\nx: jump x\nwords 2\nentry 0",
	} {
		checkRight(t, s, want)
	}
	// No other byte is a blank.
	for c := range 256 {
		s := "stop" + string([]byte{byte(c)}) + "7"
		checkRead(t, s)
		switch c {
		case ' ', '\t', '\r', '#', '\n':
		default:
			checkWrong(t, s, at{1, 1, api.ErrOp})
		}
	}
}

// 6.9: columns are counted in bytes, lines by newlines alone.
func TestAssemblePlaces(t *testing.T) {
	checkWrong(t, "a: jump\t é", at{1, 10, api.ErrNumber})
	checkWrong(t, "stop é 1", at{1, 6, api.ErrNumber})
	checkWrong(t, "stop 1 é", at{1, 8, api.ErrNumber})
	checkWrong(t, "# é\r\rstop\r\n\r\rx", at{2, 3, api.ErrOp})
	checkWrong(t, strings.Repeat("\n", 65530)+"  x", at{65531, 3, api.ErrOp})
	checkWrong(t, strings.Repeat(" ", 65535)+"x", at{1, 65536, api.ErrOp})
}

// 6.9: a text of as many bytes as may be, and of one more, whatever is in it.
func TestAssembleLongest(t *testing.T) {
	for _, c := range []string{" ", "\n", "#", "x", "\xff"} {
		s := strings.Repeat(c, api.MaxText)
		if c == "x" || c == "\xff" {
			checkWrong(t, s, at{1, 1, api.ErrOp})
		} else {
			checkRight(t, s, api.Program{})
		}
		checkWrong(t, s+c, at{1, 1, api.ErrLong})
		checkWrong(t, s+s+s, at{1, 1, api.ErrLong})
	}
	checkRight(t, "stop"+strings.Repeat(" ", api.MaxText-4), api.Program{Code: []api.Instr{{}}})
	checkWrong(t, "1:\n"+strings.Repeat(" ", api.MaxText), at{1, 1, api.ErrLong})
}

// 6.9: what Assemble gives need not pass Verify.
func TestAssembleDoesNotVerify(t *testing.T) {
	checkRight(t, "entry 4095\nload 99 -3\nstop 4\nadd", api.Program{Entry: []int{4095}, Code: []api.Instr{{Op: api.ILoad, A: 99, B: -3}, {Op: api.IStop, A: 4}, {Op: api.IAdd}}})
}

// text is lines that are right as a rule.
func (c *chance) text() string {
	s := ""
	for range c.below(9) {
		s += c.line() + pick(c, []string{"\n", "\n", "\n", "\r\n", " # x\n", "#: x\n", "\n\n"})
	}
	return s
}

func (c *chance) line() string {
	blank := func() string { return pick(c, []string{" ", " ", " ", "  ", "\t", "\r", " \t"}) }
	labels := []string{"a", "b", "c", "A", "a1", "stop", "x_" + strings.Repeat("y", 28+c.below(3))}
	number := func() string {
		if c.below(12) == 0 {
			return pick(c, []string{"-", "+1", "x", "1x", "9223372036854775808", "-9223372036854775809", "_", "é", "a:", ":", "--", "\x00"})
		}
		return pick(c, []string{"0", "1", "-1", "007", "31", "32", "33", "63", "64", "65", "4095", "4096", "-0", strconv.FormatInt(c.number(), 10)})
	}
	s := pick(c, []string{"", "", " ", "\t"})
	if c.below(3) == 0 {
		s += pick(c, labels) + ":" + blank()
	}
	if c.below(40) == 0 {
		s += pick(c, []string{":", "1:", "a::", "é:", strings.Repeat("z", 32) + ":"}) + blank()
	}
	switch c.below(10) {
	case 0:
		return s
	case 1:
		s += pick(c, []string{"words", "locals"})
		for range pick(c, []int{1, 1, 1, 1, 0, 2}) {
			s += blank() + pick(c, []string{number(), "1", "2", "32"})
		}
		return s
	case 2:
		s += "entry"
		for range pick(c, []int{0, 1, 2, 3, 3, 32, 33}) {
			s += blank() + pick(c, []string{"-", "0", "12", pick(c, labels), "4095", pick(c, []string{"-", number()})})
		}
		return s
	}
	name := spelled(c.below(api.NumOps))
	if c.below(3) == 0 {
		name = pick(c, []string{"jump", "zero"})
	}
	s += pick(c, []string{name, name, name, name, name, name, name, name, name, pick(c, []string{name, "x", "Stop", "7", name + "x"})})
	two := slices.Contains([]string{"loadx", "savex", "row"}, name)
	count := pick(c, []int{1, 1, 1, 2, 2, 2, pick(c, []int{0, 1, 2, 3})})
	if two && count == 1 && c.below(8) > 0 {
		count = 2
	}
	for i := range count {
		if i == 0 && (name == "jump" || name == "zero") && c.below(3) > 0 {
			s += blank() + pick(c, labels)
		} else {
			s += blank() + number()
		}
	}
	return s
}

// 6.9, 6.10: texts that were thrown. Of what is right the listing is read as the same program.
func TestAssembleThrown(t *testing.T) {
	c := chance(70)
	count := map[api.Errno]int{}
	for range 60000 {
		s := c.text()
		code := checkRead(t, s)
		if code == api.OK {
			p, _ := vm.Assemble(s)
			checkListed(t, p)
		}
		if count[code]++; t.Failed() {
			return
		}
	}
	for _, code := range []api.Errno{api.OK, api.ErrName, api.ErrTwice, api.ErrOp, api.ErrForm, api.ErrNumber, api.ErrArg, api.ErrCount, api.ErrWant, api.ErrUnknown} {
		if count[code] < 200 {
			t.Errorf("%d: %v", code, count)
		}
	}
}

// 6.10: List of what Assemble gives is one text for all listings of one program.
func TestAssembleManyListingsOfOne(t *testing.T) {
	c := chance(71)
	for range 3000 {
		p := c.writable()
		lines := strings.SplitAfter(vm.List(p), "\n")
		heads, code := lines[:3], lines[3:]
		s := ""
		for i, line := range code {
			for len(heads) > 0 && c.below(3) == 0 {
				at := c.below(len(heads))
				s += heads[at]
				heads = slices.Delete(slices.Clone(heads), at, at+1)
			}
			s += "l" + strconv.Itoa(i) + ": " + strings.ReplaceAll(line, " ", "\t ") + "# " + line
		}
		s += "\n" + strings.Join(heads, "")
		q, err := vm.Assemble(s)
		if err != nil || vm.List(q) != vm.List(p) {
			t.Fatalf("%q: %v, %q", s, err, vm.List(q))
		}
	}
}

// 6.9, 0.4: each program is new.
func TestAssembleSharesNothing(t *testing.T) {
	s := vm.List(adder(t))
	one, _ := vm.Assemble(s)
	two, _ := vm.Assemble(s)
	for i := range one.Code[:cap(one.Code)] {
		one.Code[:cap(one.Code)][i].Op = 9
	}
	for i := range one.Entry[:cap(one.Entry)] {
		one.Entry[:cap(one.Entry)][i] = 9
	}
	if !sameProgram(two, adder(t)) {
		t.Errorf("%+v", two)
	}
	checkRight(t, s, adder(t))
}
