package read_test

import (
	"reflect"
	"regexp"
	"strconv"
	"strings"
	"testing"

	"fescue/api"
	"fescue/lex"
	"fescue/read"
	"fescue/shape"
)

// form is what the document says of an instruction's word.
type form struct {
	word    string
	answers bool
	has     string // behind the word: registers A and B, any number N, a mark f, a small number n, registers *, pairs of a block and a register %
}

// forms are the document's words, from OpInt on in the order of their numbers.
var forms = []form{
	{"int", true, "N"}, {"null", true, ""}, {"fn", true, "f"},
	{"add", true, "AB"}, {"sub", true, "AB"}, {"mul", true, "AB"}, {"div", true, "AB"}, {"less", true, "AB"}, {"eq", true, "AB"}, {"same", true, "AB"},
	{"new", true, ""}, {"local", true, ""}, {"free", false, "A"}, {"field", true, "An"}, {"elem", true, "AB"}, {"load", true, "A"}, {"store", false, "AB"},
	{"call", true, "f*"}, {"icall", true, "A*"}, {"read", true, ""}, {"print", false, "A"}, {"phi", true, "%"},
}

const digits = `(?:0|[1-9][0-9]{0,2})`

// pattern answers what a line of the document's form must be.
func pattern(f form) *regexp.Regexp {
	s := "^"
	if f.answers {
		s += "r" + digits + " t" + digits + " = "
	}
	s += f.word
	for _, c := range f.has {
		s += map[rune]string{
			'A': " r" + digits, 'B': " r" + digits, 'f': " f" + digits, 'n': " " + digits, 'N': " (?:0|-?[1-9][0-9]*)",
			'*': "(?: r" + digits + ")*", '%': "(?: b" + digits + " r" + digits + ")*",
		}[c]
	}
	return regexp.MustCompile(s + "$")
}

var (
	patterns  []*regexp.Regexp
	typeLine  = regexp.MustCompile("^type (int|ptr t" + digits + "|fn( t" + digits + ")+|struct( t" + digits + ")*|array t" + digits + " " + digits + ")$")
	funcLine  = regexp.MustCompile("^func t" + digits + "$")
	endLine   = regexp.MustCompile("^(jump b" + digits + "|branch r" + digits + " b" + digits + " b" + digits + "|return r" + digits + ")$")
	typeKinds = map[string]uint8{"int": 1, "ptr": 2, "fn": 3, "struct": 4, "array": 5}
)

func init() {
	for _, f := range forms {
		patterns = append(patterns, pattern(f))
	}
}

// numbers answers the numbers of marks, and of numbers' texts.
func numbers(words []string) []int {
	var l []int
	for _, w := range words {
		n, _ := strconv.Atoi(strings.TrimLeft(w, "tfbr"))
		l = append(l, n)
	}
	return l
}

// typeOf answers the type that a line tells.
func typeOf(words []string) api.Type {
	y, l := api.Type{Kind: typeKinds[words[1]]}, numbers(words[2:])
	switch words[1] {
	case "struct":
		y.Parts = l
	case "fn":
		y.Elem, y.Parts = l[0], l[1:]
	case "ptr":
		y.Elem = l[0]
	case "array":
		y.Elem, y.Many = l[0], l[1]
	}
	return y
}

// endOf answers the end that a line tells.
func endOf(words []string) api.End {
	l := numbers(words[1:])
	switch words[0] {
	case "jump":
		return api.End{Kind: api.EndJump, To: l[0]}
	case "branch":
		return api.End{Kind: api.EndBranch, A: l[0], To: l[1], Else: l[2]}
	}
	return api.End{Kind: api.EndReturn, A: l[0]}
}

// insOf tells by the document's words which instruction of the register reg a line is, if it is one.
func insOf(words []string, reg int) (api.Ins, bool) {
	line := strings.Join(words, " ")
	for k, f := range forms {
		if !patterns[k].MatchString(line) {
			continue
		}
		x := api.Ins{Op: uint8(k + 1)}
		if f.answers {
			if numbers(words)[0] != reg {
				return api.Ins{}, false
			}
			x.Type, words = numbers(words)[1], words[3:]
		}
		l := numbers(words[1:])
		for _, c := range f.has {
			switch c {
			case 'A':
				x.A, l = l[0], l[1:]
			case 'B':
				x.B, l = l[0], l[1:]
			case 'f', 'n':
				x.N, l = int64(l[0]), l[1:]
			case 'N':
				n, err := strconv.ParseInt(words[1], 10, 64)
				if err != nil {
					return api.Ins{}, false
				}
				x.N = n
			case '*':
				x.Args = l
			case '%':
				for i := 0; i < len(l); i += 2 {
					x.From, x.Args = append(x.From, l[i]), append(x.Args, l[i+1])
				}
			}
		}
		return x, true
	}
	return api.Ins{}, false
}

// programOf tells by the document's words what lines are, be its shape what it is, and whether they are a program's text.
func programOf(lines [][]string) (p api.Program, is bool) {
	reg, inside := 0, false
	for _, words := range lines {
		line := strings.Join(words, " ")
		var f *api.Func
		if len(p.Funcs) > 0 {
			f = &p.Funcs[len(p.Funcs)-1]
		}
		switch {
		case f == nil && typeLine.MatchString(line):
			p.Types = append(p.Types, typeOf(words))
		case !inside && funcLine.MatchString(line):
			sig := numbers(words[1:])[0]
			p.Funcs = append(p.Funcs, api.Func{Sig: sig})
			reg = 0
			if sig < len(p.Types) {
				reg = len(p.Types[sig].Parts)
			}
		case !inside && f != nil && line == "block":
			f.Blocks, inside = append(f.Blocks, api.Block{}), true
		case inside && endLine.MatchString(line):
			f.Blocks[len(f.Blocks)-1].End, inside = endOf(words), false
		case inside:
			x, is := insOf(words, reg)
			if !is {
				return api.Program{}, false
			}
			b := &f.Blocks[len(f.Blocks)-1]
			b.Ins, reg = append(b.Ins, x), reg+1
		default:
			return api.Program{}, false
		}
	}
	return p, !inside
}

// wanted tells by the document's words what Read answers of s.
func wanted(s string) (api.Program, api.Errno) {
	lines, e := lex.Lines(s)
	if e != api.OK {
		return api.Program{}, e
	}
	p, is := programOf(lines)
	if !is {
		return api.Program{}, api.ErrText
	}
	if e := shape.Check(p); e != api.OK {
		return api.Program{}, e
	}
	return p, api.OK
}

// writer writes lines, word by word.
type writer struct{ strings.Builder }

func (w *writer) line(words ...string) { w.WriteString(strings.Join(words, " ") + "\n") }

func mark(c string, n int) string { return c + strconv.Itoa(n) }

// marks answers words behind others: a mark of each number.
func marks(words []string, c string, l ...int) []string {
	for _, n := range l {
		words = append(words, mark(c, n))
	}
	return words
}

// textOf tells by the document's words the text of p.
func textOf(p api.Program) string {
	var w writer
	for _, y := range p.Types {
		switch y.Kind {
		case api.KInt:
			w.line("type", "int")
		case api.KPtr:
			w.line("type", "ptr", mark("t", y.Elem))
		case api.KFn:
			w.line(marks([]string{"type", "fn", mark("t", y.Elem)}, "t", y.Parts...)...)
		case api.KStruct:
			w.line(marks([]string{"type", "struct"}, "t", y.Parts...)...)
		case api.KArray:
			w.line("type", "array", mark("t", y.Elem), strconv.Itoa(y.Many))
		}
	}
	for _, f := range p.Funcs {
		w.line("func", mark("t", f.Sig))
		reg := 0
		if f.Sig < len(p.Types) {
			reg = len(p.Types[f.Sig].Parts)
		}
		for _, b := range f.Blocks {
			w.line("block")
			for _, x := range b.Ins {
				w.line(insWords(x, reg)...)
				reg++
			}
			w.line(endWords(b.End)...)
		}
	}
	return w.String()
}

// insWords tells by the document's words the line of x, of the register reg.
func insWords(x api.Ins, reg int) []string {
	f := forms[x.Op-1]
	var words []string
	if f.answers {
		words = []string{mark("r", reg), mark("t", x.Type), "="}
	}
	words = append(words, f.word)
	for _, c := range f.has {
		switch c {
		case 'A':
			words = marks(words, "r", x.A)
		case 'B':
			words = marks(words, "r", x.B)
		case 'f':
			words = marks(words, "f", int(x.N))
		case 'n', 'N':
			words = append(words, strconv.FormatInt(x.N, 10))
		case '*':
			words = marks(words, "r", x.Args...)
		case '%':
			for k := range x.Args {
				words = append(words, mark("b", x.From[k]), mark("r", x.Args[k]))
			}
		}
	}
	return words
}

// endWords tells by the document's words the line of an end.
func endWords(x api.End) []string {
	switch x.Kind {
	case api.EndJump:
		return []string{"jump", mark("b", x.To)}
	case api.EndBranch:
		return []string{"branch", mark("r", x.A), mark("b", x.To), mark("b", x.Else)}
	}
	return []string{"return", mark("r", x.A)}
}

// lined answers the text of lines.
func lined(l ...string) string { return strings.Join(l, "\n") + "\n" }

// same tells whether both programs are the same: all that is empty is as good as nothing.
func same(a, b api.Program) bool { return shape.Same(a, b) }

// short answers a text, or the beginning of one that is long.
func short(s string) string {
	if len(s) <= 600 {
		return s
	}
	return s[:600] + " .. and so on, " + strconv.Itoa(len(s)) + " bytes"
}

// mustRead holds what Read answers of s against a program; so does the model.
func mustRead(t *testing.T, s string, want api.Program) {
	t.Helper()
	if p, e := read.Read(s); e != api.OK || !same(p, want) {
		t.Errorf("Read(%s) = %+v, %d; want %+v, OK", short(s), p, e, want)
	}
	if p, e := wanted(s); e != api.OK || !same(p, want) {
		t.Errorf("the model of %s: %+v, %d; want %+v, OK", short(s), p, e, want)
	}
}

// mustRefuse holds Read of s against an error, with nothing beside it; so does the model.
func mustRefuse(t *testing.T, s string, want api.Errno) {
	t.Helper()
	if p, e := read.Read(s); e != want || !reflect.DeepEqual(p, api.Program{}) {
		t.Errorf("Read(%s) = %+v, %d; want nothing, %d", short(s), p, e, want)
	}
	if _, e := wanted(s); e != want {
		t.Errorf("the model of %s: %d; want %d", short(s), e, want)
	}
}

// mustAgree holds Read of s against the model, and what is read against what its shape may be; it answers the error.
func mustAgree(t *testing.T, s string) api.Errno {
	t.Helper()
	want, we := wanted(s)
	p, e := read.Read(s)
	if e != we || !same(p, want) || e != api.OK && !reflect.DeepEqual(p, api.Program{}) {
		t.Fatalf("Read(%s) = %+v, %d; want %+v, %d", short(s), p, e, want, we)
	}
	if e == api.OK && shape.Check(p) != api.OK {
		t.Fatalf("Read(%s): its shape may not be: %+v", short(s), p)
	}
	return e
}

// The document's example.
const example = "type int\ntype fn t0\nfunc t1\nblock\nr0 t0 = int 5\njump b1\nblock\nr1 t0 = add r0 r0\nreturn r1\n"

func exampleProgram() api.Program {
	return api.Program{
		Types: []api.Type{{Kind: api.KInt}, {Kind: api.KFn}},
		Funcs: []api.Func{{Sig: 1, Blocks: []api.Block{
			{Ins: []api.Ins{{Op: api.OpInt, N: 5}}, End: api.End{Kind: api.EndJump, To: 1}},
			{Ins: []api.Ins{{Op: api.OpAdd}}, End: api.End{Kind: api.EndReturn, A: 1}},
		}}},
	}
}

// table answers the lines of the types that most texts here begin with.
func table() []string {
	return []string{"type int", "type ptr t4", "type fn t0", "type fn t0 t0 t1", "type struct t0 t1"}
}

func tableTypes() []api.Type {
	return []api.Type{{Kind: api.KInt}, {Kind: api.KPtr, Elem: 4}, {Kind: api.KFn}, {Kind: api.KFn, Parts: []int{0, 1}}, {Kind: api.KStruct, Parts: []int{0, 1}}}
}

// aroundLines answers a program's text with lines in it: they stand in the second function, of two parameters, as its register 3 and on, in the middle one of three blocks, which ends with the last line.
func aroundLines(l ...string) string {
	all := append(table(), "func t2", "block", "r0 t0 = int 7", "return r0", "func t3", "block", "r2 t0 = int 1", "branch r2 b1 b2", "block")
	return lined(append(append(all, l...), "block", "return r0")...)
}

// around answers one with the line of the register 3 in it, alone in its block.
func around(line string) string { return aroundLines(line, "jump b2") }

// aroundProgram answers what aroundLines tells of one instruction and an end.
func aroundProgram(end api.End, l ...api.Ins) api.Program {
	return api.Program{Types: tableTypes(), Funcs: []api.Func{
		{Sig: 2, Blocks: []api.Block{{Ins: []api.Ins{{Op: api.OpInt, N: 7}}, End: api.End{Kind: api.EndReturn}}}},
		{Sig: 3, Blocks: []api.Block{
			{Ins: []api.Ins{{Op: api.OpInt, N: 1}}, End: api.End{Kind: api.EndBranch, A: 2, To: 1, Else: 2}},
			{Ins: l, End: end},
			{End: api.End{Kind: api.EndReturn}},
		}},
	}}
}

// mustIns holds what is read around a line against an instruction.
func mustIns(t *testing.T, line string, x api.Ins) {
	t.Helper()
	mustRead(t, around(line), aroundProgram(api.End{Kind: api.EndJump, To: 2}, x))
}

// notIns holds Read around lines against ErrText.
func notIns(t *testing.T, lines ...string) {
	t.Helper()
	for _, line := range lines {
		mustRefuse(t, around(line), api.ErrText)
	}
}

// odd holds Read around lines against ErrShape.
func odd(t *testing.T, lines ...string) {
	t.Helper()
	for _, line := range lines {
		mustRefuse(t, around(line), api.ErrShape)
	}
}

// P7.1: the document's example, and what it says of others.
func TestReadExample(t *testing.T) {
	mustRead(t, example, exampleProgram())
	mustRefuse(t, strings.Replace(example, "r1 t0", "r2 t0", 1), api.ErrText)
	mustRefuse(t, strings.TrimSuffix(example, "return r1\n"), api.ErrText)
	mustRefuse(t, strings.Replace(example, "int 5", "int 05", 1), api.ErrText)
	mustRefuse(t, strings.ReplaceAll(example, "r1", "r2"), api.ErrText)
	mustRefuse(t, strings.Replace(example, "return r1", "return r2", 1), api.ErrShape)
}

// P7.1: each instruction's word, with all that it has.
func TestReadInstructions(t *testing.T) {
	mustIns(t, "r3 t0 = int -12", api.Ins{Op: api.OpInt, N: -12})
	mustIns(t, "r3 t1 = null", api.Ins{Op: api.OpNull, Type: 1})
	mustIns(t, "r3 t2 = fn f1", api.Ins{Op: api.OpFn, Type: 2, N: 1})
	mustIns(t, "r3 t0 = add r1 r2", api.Ins{Op: api.OpAdd, A: 1, B: 2})
	mustIns(t, "r3 t0 = sub r1 r2", api.Ins{Op: api.OpSub, A: 1, B: 2})
	mustIns(t, "r3 t0 = mul r1 r2", api.Ins{Op: api.OpMul, A: 1, B: 2})
	mustIns(t, "r3 t0 = div r1 r2", api.Ins{Op: api.OpDiv, A: 1, B: 2})
	mustIns(t, "r3 t0 = less r1 r2", api.Ins{Op: api.OpLess, A: 1, B: 2})
	mustIns(t, "r3 t0 = eq r1 r2", api.Ins{Op: api.OpEq, A: 1, B: 2})
	mustIns(t, "r3 t0 = same r1 r2", api.Ins{Op: api.OpSame, A: 1, B: 2})
	mustIns(t, "r3 t1 = new", api.Ins{Op: api.OpNew, Type: 1})
	mustIns(t, "r3 t1 = local", api.Ins{Op: api.OpLocal, Type: 1})
	mustIns(t, "free r1", api.Ins{Op: api.OpFree, A: 1})
	mustIns(t, "r3 t1 = field r2 7", api.Ins{Op: api.OpField, Type: 1, A: 2, N: 7})
	mustIns(t, "r3 t1 = elem r1 r2", api.Ins{Op: api.OpElem, Type: 1, A: 1, B: 2})
	mustIns(t, "r3 t4 = load r1", api.Ins{Op: api.OpLoad, Type: 4, A: 1})
	mustIns(t, "store r1 r2", api.Ins{Op: api.OpStore, A: 1, B: 2})
	mustIns(t, "r3 t0 = call f1 r0 r1", api.Ins{Op: api.OpCall, N: 1, Args: []int{0, 1}})
	mustIns(t, "r3 t1 = icall r2 r0 r1", api.Ins{Op: api.OpICall, Type: 1, A: 2, Args: []int{0, 1}})
	mustIns(t, "r3 t0 = read", api.Ins{Op: api.OpRead})
	mustIns(t, "print r3", api.Ins{Op: api.OpPrint, A: 3})
	mustIns(t, "r3 t1 = phi b1 r2 b0 r1", api.Ins{Op: api.OpPhi, Type: 1, From: []int{1, 0}, Args: []int{2, 1}})
}

// full answers each line of an instruction, with all that it has, and the word's place in it.
func full() (lines [][]string, at []int) {
	for k, f := range forms {
		x := api.Ins{Op: uint8(k + 1), A: 1, B: 2, N: 1, Args: []int{0, 1}, From: []int{1, 2}}
		lines = append(lines, insWords(x, 3))
		at = append(at, 0)
		if f.answers {
			at[k] = 3
		}
	}
	return lines, at
}

// without answers words without the one at a place; with, with another one ahead of it.
func without(words []string, at int) []string {
	return append(append([]string{}, words[:at]...), words[at+1:]...)
}

func with(words []string, at int, word string) []string {
	return append(append(append([]string{}, words[:at]...), word), words[at:]...)
}

// instead answers words with another one at a place.
func instead(words []string, at int, word string) []string {
	all := append([]string{}, words...)
	all[at] = word
	return all
}

// P7.1: each instruction's word with 'r t =' ahead of it, and without; and what is ahead otherwise than it should be.
func TestReadAnswers(t *testing.T) {
	lines, at := full()
	for k, words := range lines {
		behind := strings.Join(words[at[k]:], " ")
		yes, no := "r3 t0 = "+behind, behind
		if !forms[k].answers {
			yes, no = no, yes
		}
		if e := mustAgree(t, around(yes)); e != api.OK {
			t.Errorf("Read around %s: %d", yes, e)
		}
		notIns(t, no, "= "+behind, "t0 = "+behind, "r3 = "+behind, "r3 t0 "+behind, "r3 "+behind, "t0 "+behind, "t0 r3 = "+behind, "r3 t0 = = "+behind, "r3 t0 t0 = "+behind, "r3 r3 t0 = "+behind)
		notIns(t, "r3 t0 = r3 t0 = "+behind, "r3 t0 := "+behind, "r3 t0 == "+behind, "r3 t0 =  =  "+behind, "r3 f0 = "+behind, "b3 t0 = "+behind, "r3 b0 = "+behind, "f3 t0 = "+behind, "3 t0 = "+behind, "r3 0 = "+behind, "r t0 = "+behind, "r3 t = "+behind)
		notIns(t, "r3 t0 ="+behind, "r3 t0= "+behind, "r3t0 = "+behind, "r03 t0 = "+behind, "r3 t00 = "+behind, "r+3 t0 = "+behind, "r-3 t0 = "+behind, "r3 t-0 = "+behind, "R3 t0 = "+behind, "r3 T0 = "+behind, "r3 t1000 = "+behind, "r1003 t0 = "+behind)
	}
	notIns(t, "r3", "r3 t0", "r3 t0 =", "=", "t0", "r3 =", "r3 t0 = =")
	odd(t, "r3 t5 = null", "r3 t999 = null")
}

// P7.1: each instruction with a word missing, with one too many, and with two turned round.
func TestReadWords(t *testing.T) {
	lines, start := full()
	spare := []string{"r0", "t0", "b0", "f0", "0", "1", "=", "x", "int", "block"}
	for k, words := range lines {
		open := strings.ContainsAny(forms[k].has, "*%")
		for at := range words {
			less := strings.Join(without(words, at), " ")
			mustAgree(t, around(less))
			if !open || at <= start[k] {
				notIns(t, less)
			}
		}
		for at := range len(words) + 1 {
			for _, w := range spare {
				more := strings.Join(with(words, at, w), " ")
				mustAgree(t, around(more))
				if !open || at <= start[k] {
					notIns(t, more)
				}
			}
		}
		for at := range words {
			for to := range at {
				turned := instead(instead(words, at, words[to]), to, words[at])
				mustAgree(t, around(strings.Join(turned, " ")))
			}
		}
	}
}

// P7.1: a word that is none: it is no instruction's, no end's, no type's and no other line's.
func TestReadNoWord(t *testing.T) {
	for _, w := range []string{
		"Int", "INT", "in", "intt", "int5", "nul", "nil", "func", "block", "type", "jump", "branch", "return", "t0", "r0", "f0", "b0", "0", "5", "=", "x", "phi1", "ﬁeld", "add,", ".add", "adder", "alloca", "malloc", "mod", "and", "or", "not", "neg", "gt", "lt", "ne", "copy", "move", "cast", "ptr", "struct", "array", "\x00", "\xff", "int\x00",
	} {
		for _, rest := range []string{"", " 5", " r1", " r1 r2", " f1", " f1 r1", " b1 r1", " r1 5", " t0"} {
			notIns(t, "r3 t0 = "+w+rest)
			if w != "jump" && w != "branch" && w != "return" && w != "block" {
				notIns(t, w+rest)
			}
		}
	}
	for _, kind := range []string{"", "Int", "integer", "pointer", "func", "function", "t0", "block", "type", "=", "record", "void", "bool", "ptrs"} {
		for _, rest := range []string{"", " t0", " t0 t0", " t0 2", " 2"} {
			mustRefuse(t, "type "+kind+rest+"\n"+example, api.ErrText)
		}
	}
	for _, line := range []string{"types int", "Type int", "t int", "int", "t0 int", "t0 = int", "0 int", "typ int", "=", "x", "fn t0", "ptr t0"} {
		mustRefuse(t, line+"\n"+example, api.ErrText)
		mustRefuse(t, example+line, api.ErrText)
	}
}

// P7.1: what an instruction has, in another order than the document's.
func TestReadOrder(t *testing.T) {
	mustIns(t, "r3 t0 = sub r2 r1", api.Ins{Op: api.OpSub, A: 2, B: 1})
	mustIns(t, "store r2 r1", api.Ins{Op: api.OpStore, A: 2, B: 1})
	mustIns(t, "r3 t1 = elem r2 r1", api.Ins{Op: api.OpElem, Type: 1, A: 2, B: 1})
	mustIns(t, "r3 t0 = icall r0 r2 r1", api.Ins{Op: api.OpICall, Args: []int{2, 1}})
	mustIns(t, "r3 t0 = phi b0 r2 b1 r1", api.Ins{Op: api.OpPhi, From: []int{0, 1}, Args: []int{2, 1}})
	notIns(t,
		"r3 t1 = field 7 r2", "r3 t0 = call r0 f1", "r3 t0 = call r0 r1 f1", "r3 t0 = call r0 f1 r1", "r3 t0 = phi r2 b0", "r3 t0 = phi r2 b0 r1 b1", "r3 t0 = phi b0 b1 r2 r1", "r3 t0 = phi r2 r1 b0 b1", "r3 t0 = phi b0 r2 r1 b1",
		"t0 r3 = int 5", "r3 = t0 int 5", "int 5 = r3 t0", "r3 t0 int = 5", "r3 t0 5 = int", "r3 t0 = 5 int", "= r3 t0 int 5", "r3 t0 = r1 add r2", "r3 t0 = r1 r2 add", "r1 store r2", "r1 free", "f1 fn = t2 r3", "r3 t2 = f1 fn",
	)
	for _, line := range []string{"b2 jump", "r2 branch b1 b2", "branch b1 r2 b2", "branch b1 b2 r2", "r0 return"} {
		mustRefuse(t, aroundLines(line), api.ErrText)
	}
}

// P7.1: marks of another letter, and words that are no marks, wherever there is a mark.
func TestReadMarks(t *testing.T) {
	letters := map[byte]bool{'t': true, 'f': true, 'b': true, 'r': true}
	lines, _ := full()
	lines = append(lines, []string{"jump", "b2"}, []string{"branch", "r2", "b1", "b2"}, []string{"return", "r1"})
	for _, words := range lines {
		for at, w := range words {
			if len(w) != 2 || !letters[w[0]] {
				continue
			}
			n := w[1:]
			for _, other := range []string{
				"t" + n, "f" + n, "b" + n, "r" + n, "x" + n, "T" + n, "R" + n, "B" + n, "F" + n, "=" + n, "-" + n, "%" + n,
				n, w[:1], w[:1] + "0" + n, w[:1] + "-" + n, w[:1] + "+" + n, w[:1] + n + "x", w[:1] + n + ".", w[:1] + "00", w[:1] + "000", w[:1] + "-0", w[:1] + "-1", w[:1] + "1000", w[:1] + "9999", w[:1] + "18446744073709551616", w[:1] + "0x1", w[:1] + "1e1", w[:1] + w, w[:1] + "1_0", w[:1] + "١", "\x00" + n, w + "\x00",
			} {
				if other == w {
					continue
				}
				line := strings.Join(instead(words, at, other), " ")
				for _, s := range []string{around(line), aroundLines(line)} {
					if e := mustAgree(t, s); e != api.ErrText {
						t.Errorf("Read around %s: %d; want ErrText", line, e)
					}
				}
			}
		}
	}
	odd(t, "r3 t999 = null", "r3 t0 = add r999 r0", "r3 t0 = add r0 r999", "r3 t2 = fn f999", "r3 t0 = call f999", "r3 t0 = call f1 r999", "r3 t0 = icall r999", "r3 t0 = icall r0 r999", "r3 t0 = phi b999 r0", "r3 t0 = phi b0 r999", "free r999", "store r999 r0", "store r0 r999", "print r999", "r3 t0 = load r999", "r3 t1 = field r999 0", "r3 t1 = elem r999 r0")
	odd(t, "r3 t5 = null", "r3 t0 = add r4 r0", "r3 t0 = add r0 r4", "r3 t2 = fn f2", "r3 t0 = call f2", "r3 t0 = phi b3 r0", "free r4")
	mustIns(t, "r3 t4 = add r3 r3", api.Ins{Op: api.OpAdd, Type: 4, A: 3, B: 3})
	for _, line := range []string{"jump b999", "branch r999 b0 b0", "branch r0 b999 b0", "branch r0 b0 b999", "return r999", "jump b3", "return r5", "return r4"} {
		mustRefuse(t, aroundLines("free r0", line), api.ErrShape)
	}
}

// notNumbers are spellings that are no text of a number from 0 to 999.
func notNumbers() []string {
	return []string{"-1", "-0", "+0", "+1", "00", "01", "007", "0999", "1000", "1001", "9999", "18446744073709551617", "1.0", "1e1", "0x1", "1_0", "1x", "x1", "x", "t1", "r1", "b1", "f1", "=", "-", "--1", "1,", "'1'", "１", "١", "1\x00", "one"}
}

// P7.1: the number of a field.
func TestReadField(t *testing.T) {
	for n := range 8 {
		mustIns(t, "r3 t1 = field r0 "+strconv.Itoa(n), api.Ins{Op: api.OpField, Type: 1, N: int64(n)})
	}
	for n := 8; n < 1000; n++ {
		odd(t, "r3 t1 = field r0 "+strconv.Itoa(n))
	}
	for _, s := range notNumbers() {
		notIns(t, "r3 t1 = field r0 "+s)
	}
	notIns(t, "r3 t1 = field 0", "r3 t1 = field r0", "r3 t1 = field", "r3 t1 = field r0 0 0", "r3 t1 = field r0 r0 0", "field r0 0")
}

// P7.1: the number of an array: of a type it tells how many, behind the mark.
func TestReadArray(t *testing.T) {
	for n := range 1000 {
		s := lined("type int", "type fn t0", "type array t0 "+strconv.Itoa(n), "func t1", "block", "r0 t0 = int 5", "return r0")
		if n < 1 || n > 16 {
			mustRefuse(t, s, api.ErrType)
			continue
		}
		mustRead(t, s, api.Program{
			Types: []api.Type{{Kind: api.KInt}, {Kind: api.KFn}, {Kind: api.KArray, Many: n}},
			Funcs: []api.Func{{Sig: 1, Blocks: []api.Block{{Ins: []api.Ins{{Op: api.OpInt, N: 5}}, End: api.End{Kind: api.EndReturn}}}}},
		})
	}
	for _, n := range notNumbers() {
		mustRefuse(t, "type int\ntype array t0 "+n, api.ErrText)
	}
	for _, rest := range []string{"", " t0", " 2", " 2 t0", " t0 2 2", " t0 t0 2", " t0 2 t0", " t0 t0", " r0 2", " 0 2", " t 2", " t00 2", " t1000 2"} {
		mustRefuse(t, "type int\ntype array"+rest, api.ErrText)
	}
	mustRefuse(t, "type int\ntype array t1 2", api.ErrType)
	mustRefuse(t, "type int\ntype array t999 2", api.ErrType)
}

// P7.1: the number of an int, and spellings that are no number's text.
func TestReadInt(t *testing.T) {
	for s, n := range map[string]int64{
		"0": 0, "1": 1, "-1": -1, "9": 9, "10": 10, "-10": -10, "999": 999, "1000": 1000, "-1000": -1000, "4294967296": 1 << 32,
		"9223372036854775807": 1<<63 - 1, "9223372036854775806": 1<<63 - 2, "-9223372036854775808": -1 << 63, "-9223372036854775807": -1<<63 + 1,
	} {
		mustIns(t, "r3 t0 = int "+s, api.Ins{Op: api.OpInt, N: n})
	}
	for _, s := range []string{
		"9223372036854775808", "-9223372036854775809", "18446744073709551616", "-18446744073709551616", "99999999999999999999", strings.Repeat("9", 300), "05", "00", "-0", "-05", "+5", "+0", "5.", "5.0", ".5", "5e0", "0x5", "5_0", "5x", "x5", "--5", "-", "5-", "r5", "t0", "f0", "b0", "=", "int", "５", "٥", "5\x00", "\x005", "five",
	} {
		notIns(t, "r3 t0 = int "+s)
	}
	notIns(t, "r3 t0 = int", "r3 t0 = int 5 5", "r3 t0 = int - 5", "int 5", "int", "r3 t0 = 5")
}

// P7.1: the register of an instruction is the number that it has.
func TestReadRegister(t *testing.T) {
	for n := range 1100 {
		line := mark("r", n) + " t0 = int 5"
		if n == 3 {
			mustIns(t, line, api.Ins{Op: api.OpInt, N: 5})
		} else {
			notIns(t, line)
		}
	}
	// What does not answer has a register, too.
	mustRead(t, aroundLines("free r0", "r4 t0 = int 5", "print r4", "store r0 r4", "r7 t0 = read", "return r7"), aroundProgram(
		api.End{Kind: api.EndReturn, A: 7},
		api.Ins{Op: api.OpFree}, api.Ins{Op: api.OpInt, N: 5}, api.Ins{Op: api.OpPrint, A: 4}, api.Ins{Op: api.OpStore, B: 4}, api.Ins{Op: api.OpRead},
	))
	for _, r := range []string{"r3", "r5", "r6", "r0"} {
		mustRefuse(t, aroundLines("free r0", r+" t0 = int 5", "return r0"), api.ErrText)
	}
	// From block to block registers go on; with a function they begin anew.
	s := lined(append(table(), "func t2", "block", "r0 t0 = read", "print r0", "jump b1", "block", "jump b2", "block", "r2 t0 = read", "return r2", "func t2", "block", "r0 t0 = read", "return r0")...)
	if e := mustAgree(t, s); e != api.OK {
		t.Errorf("registers that go on: %d", e)
	}
	mustRefuse(t, strings.Replace(s, "r2 t0", "r0 t0", 1), api.ErrText)
	mustRefuse(t, strings.Replace(s, "r2 t0", "r1 t0", 1), api.ErrText)
	mustRefuse(t, strings.Replace(s, "func t2\nblock\nr0 t0 = read\nreturn", "func t2\nblock\nr3 t0 = read\nreturn", 1), api.ErrText)
}

// P7.1: the first register is the one behind the parameters, which are the Parts of the function's type, be that what it is.
func TestReadParameters(t *testing.T) {
	for many := range 62 {
		for _, sort := range []string{"type fn t0", "type struct"} {
			s := "type int\n" + sort + strings.Repeat(" t0", many) + "\nfunc t1\nblock\n"
			for first := range 64 {
				body := mark("r", first) + " t0 = read\nreturn " + mark("r", first) + "\n"
				want := api.ErrText
				switch {
				case first != many:
				case sort == "type fn t0" && many <= 4:
					want = api.OK
				case sort == "type fn t0", many < 1, many > 8:
					want = api.ErrType
				default:
					want = api.ErrShape
				}
				if e := mustAgree(t, s+body); e != want {
					t.Errorf("Read(%s): %d; want %d", s+body, e, want)
				}
			}
		}
	}
	// A type that there is not, and one that has no Parts, of no kind of function.
	for _, sig := range []string{"t2", "t3", "t15", "t16", "t17", "t999", "t0"} {
		s := "type int\ntype fn t0 t0 t0\nfunc " + sig + "\nblock\n"
		mustRefuse(t, s+"r0 t0 = read\nreturn r0\n", api.ErrShape)
		mustRefuse(t, s+"r0 t0 = read\nr1 t0 = read\nreturn r1\n", api.ErrShape)
		mustRefuse(t, s+"r1 t0 = read\nreturn r1\n", api.ErrText)
		mustRefuse(t, s+"r2 t0 = read\nreturn r2\n", api.ErrText)
		mustRefuse(t, "func "+sig+"\nblock\nr0 t0 = read\nreturn r0\n", api.ErrShape)
		mustRefuse(t, "func "+sig+"\nblock\nr1 t0 = read\nreturn r1\n", api.ErrText)
	}
	// Pointers and arrays have no Parts, be what they are made of what it is.
	for _, sort := range []string{"type ptr t1", "type array t1 2"} {
		s := lined("type int", "type struct t0 t0", sort, "func t2", "block")
		mustRefuse(t, s+"r0 t0 = read\nreturn r0\n", api.ErrShape)
		mustRefuse(t, s+"r2 t0 = read\nreturn r2\n", api.ErrText)
	}
	// Each function has the parameters of its own type.
	s := lined(append(table(), "func t3", "block", "r2 t0 = read", "return r1", "func t2", "block", "r0 t0 = read", "return r0", "func t3", "block", "r2 t0 = read", "return r2")...)
	if e := mustAgree(t, s); e != api.OK {
		t.Errorf("functions with parameters of their own: %d", e)
	}
}

// P7.1: calls of no register, and of some.
func TestReadCalls(t *testing.T) {
	for many := range 60 {
		args := strings.Repeat(" r1", many)
		var l []int
		for range many {
			l = append(l, 1)
		}
		if many > 4 {
			odd(t, "r3 t0 = call f1"+args, "r3 t0 = icall r2"+args)
			continue
		}
		mustIns(t, "r3 t0 = call f1"+args, api.Ins{Op: api.OpCall, N: 1, Args: l})
		mustIns(t, "r3 t0 = icall r2"+args, api.Ins{Op: api.OpICall, A: 2, Args: l})
		mustIns(t, "r3 t0 = call f0"+args, api.Ins{Op: api.OpCall, Args: l})
	}
	mustRefuse(t, around("r3 t0 = call f1"+strings.Repeat(" r1", 60)), api.ErrMany) // a word more than a line may have
	notIns(t, "r3 t0 = call", "r3 t0 = icall", "r3 t0 = call r0", "r3 t0 = icall f0", "r3 t0 = call f0 f0", "r3 t0 = icall r0 f0", "r3 t0 = call f0 r0 x", "r3 t0 = icall r0 r0 5", "r3 t0 = call 0", "r3 t0 = icall f0 r0", "r3 t0 = call f0 b0 r0", "call f0", "icall r0", "r3 t0 = call f0 r0 =", "r3 t0 = call f0 r00")
}

// P7.1: a phi of no pair, of one, of several, and of half a pair.
func TestReadPhi(t *testing.T) {
	odd(t, "r3 t0 = phi")
	x := api.Ins{Op: api.OpPhi}
	line := "r3 t0 = phi"
	for many := 1; many <= 30; many++ {
		half := line + " b" + strconv.Itoa(many%3)
		notIns(t, half, half+" b0", half+" 0", half+" x", half+" r", line+" r0", line+" r0 b0", line+" f0")
		if many < 30 { // as many words as a line may have
			notIns(t, half+" r0 r0", half+" r0 b", half+" b0 r0")
		}
		line = half + " r" + strconv.Itoa(many%4)
		x.From, x.Args = append(x.From, many%3), append(x.Args, many%4)
		if many <= 16 {
			mustIns(t, line, x)
		} else {
			odd(t, line)
		}
	}
	mustRefuse(t, around(line+" b0"), api.ErrMany) // a word more than a line may have
}

// P7.1: each line of a type, with all that it has, with a word missing, and with one too many.
func TestReadTypes(t *testing.T) {
	behind := "func t1\nblock\nr0 t0 = read\nreturn r0\n"
	for line, y := range map[string]api.Type{
		"type int": {Kind: api.KInt}, "type ptr t0": {Kind: api.KPtr}, "type ptr t2": {Kind: api.KPtr, Elem: 2}, "type ptr t1": {Kind: api.KPtr, Elem: 1},
		"type fn t0": {Kind: api.KFn}, "type fn t2": {Kind: api.KFn, Elem: 2}, "type fn t1 t0": {Kind: api.KFn, Elem: 1, Parts: []int{0}}, "type fn t0 t2 t1 t0 t2": {Kind: api.KFn, Parts: []int{2, 1, 0, 2}},
		"type struct t0": {Kind: api.KStruct, Parts: []int{0}}, "type struct t1 t0": {Kind: api.KStruct, Parts: []int{1, 0}}, "type struct t0 t1 t0 t1 t0 t1 t0 t1": {Kind: api.KStruct, Parts: []int{0, 1, 0, 1, 0, 1, 0, 1}},
		"type array t1 3": {Kind: api.KArray, Elem: 1, Many: 3}, "type array t0 16": {Kind: api.KArray, Many: 16},
	} {
		p := api.Program{Types: []api.Type{{Kind: api.KInt}, {Kind: api.KFn}, y}, Funcs: []api.Func{{Sig: 1, Blocks: []api.Block{{Ins: []api.Ins{{Op: api.OpRead}}, End: api.End{Kind: api.EndReturn}}}}}}
		mustRead(t, lined("type int", "type fn t0", line)+behind, p)
		words := strings.Fields(line)
		for at := range words {
			mustAgree(t, lined("type int", "type fn t0", strings.Join(without(words, at), " "))+behind)
		}
		for at := range len(words) + 1 {
			for _, w := range []string{"t0", "t1", "t2", "2", "type", "int", "r0", "x", "="} {
				mustAgree(t, lined("type int", "type fn t0", strings.Join(with(words, at, w), " "))+behind)
			}
		}
	}
	for _, line := range []string{
		"type", "int", "ptr t0", "type int int", "type int t0", "type int 0", "type ptr", "type ptr t0 t0", "type ptr t0 0", "type ptr 0", "type ptr r0", "type ptr int", "type fn", "type fn 0", "type fn r0", "type fn t0 r0", "type fn t0 0", "type fn t0 t0 int", "type fn t0 =", "type struct int", "type struct t0 int", "type struct 0", "type struct t0 0", "type struct f0", "type array", "type array t0", "type array 2", "type array 2 t0", "type array t0 2 2", "type array int 2", "type t0 int", "type int type int", "type ptr t", "type ptr t00", "type ptr t-1", "type ptr t1000", "type struct t01", "type fn t+0",
	} {
		mustRefuse(t, lined("type int", "type fn t0", line)+behind, api.ErrText)
	}
	for _, line := range []string{ // texts of tables that may not be
		"type struct", "type ptr t3", "type ptr t999", "type fn t3", "type fn t999 t0", "type fn t0 t3", "type fn t0 t0 t0 t0 t0 t0", "type struct t2", "type struct t3", "type struct t999", "type struct t0 t0 t0 t0 t0 t0 t0 t0 t0", "type array t2 2", "type array t0 0", "type array t0 17",
	} {
		mustRefuse(t, lined("type int", "type fn t0", line)+behind, api.ErrType)
	}
}

// P7.1: each other line with a word missing, with one too many, and with another one.
func TestReadOtherLines(t *testing.T) {
	mustRead(t, aroundLines("jump b1"), aroundProgram(api.End{Kind: api.EndJump, To: 1}))
	mustRead(t, aroundLines("branch r1 b2 b0"), aroundProgram(api.End{Kind: api.EndBranch, A: 1, To: 2}))
	mustRead(t, aroundLines("branch r1 b0 b2"), aroundProgram(api.End{Kind: api.EndBranch, A: 1, Else: 2}))
	mustRead(t, aroundLines("return r2"), aroundProgram(api.End{Kind: api.EndReturn, A: 2}))
	for _, line := range []string{
		"jump", "jump b1 b1", "jump r1", "jump b1 r1", "jump 1", "jump b", "jump block", "b1", "jump = b1", "r3 t0 = jump b1",
		"branch", "branch r1", "branch r1 b0", "branch b0 b1", "branch r1 b0 b1 b2", "branch r1 r1 b0 b1", "branch r1 b0 r1", "branch b1 b0 b1", "branch r1 0 1", "r3 t0 = branch r1 b0 b1", "branch r1 b0 b1 r1",
		"return", "return r1 r1", "return b1", "return 1", "return r", "return r1 t0", "r3 t0 = return r1", "return t0 r1", "Return r1", "ret r1", "exit r1", "goto b1",
	} {
		mustRefuse(t, aroundLines(line), api.ErrText)
	}
	for _, line := range []string{"func", "func t1 t1", "func 1", "func t", "func r1", "func f0", "func t1 f0", "t1 func", "Func t1", "function t1", "func t01", "func t1000", "func t1 =", "f0 t1 = func", "func f0 t1"} {
		mustRefuse(t, strings.Replace(example, "func t1", line, 1), api.ErrText)
	}
	for _, line := range []string{"block block", "block b0", "b0", "b0 block", "block 0", "Block", "blocks", "block =", "block r0", "b0 = block"} {
		mustRefuse(t, strings.Replace(example, "block", line, 1), api.ErrText)
		mustRefuse(t, strings.Replace(example, "jump b1\nblock", "jump b1\n"+line, 1), api.ErrText)
	}
}

// P7.1: texts without a line, without a function, and functions without a block: texts, but of no shape that may be. A block without an end is none.
func TestReadNothing(t *testing.T) {
	for _, s := range []string{"", "\n", " ", "#", "\n\n\n", "# type int\n", "\t\r\n #\n"} {
		mustRefuse(t, s, api.ErrShape)
	}
	mustRefuse(t, "type int", api.ErrShape)
	mustRefuse(t, "type int\ntype fn t0\n", api.ErrShape)
	mustRefuse(t, "type struct", api.ErrType)
	mustRefuse(t, "func t0", api.ErrShape)
	mustRefuse(t, "type int\ntype fn t0\nfunc t1\n", api.ErrShape)
	mustRefuse(t, "type int\ntype fn t0\nfunc t1\nfunc t1\n", api.ErrShape)
	mustRefuse(t, strings.Replace(example, "func t1\n", "func t1\nfunc t1\n", 1), api.ErrShape)
	mustRefuse(t, example+"func t1\n", api.ErrShape)
	for _, s := range []string{
		"block", "block\n", "jump b0", "return r0", "r0 t0 = int 5", "free r0", "type int\nblock\nreturn r0\n", "type int\ntype fn t0\nblock\nr0 t0 = int 5\nreturn r0\n",
		"type int\ntype fn t0\nfunc t1\nblock", "type int\ntype fn t0\nfunc t1\nblock\nr0 t0 = int 5", "type int\ntype fn t0\nfunc t1\nr0 t0 = int 5\nreturn r0\n", "type int\ntype fn t0\nfunc t1\nreturn r0\n",
		example + "block\n", example + "block\nr2 t0 = int 5\n", example + "func t1\nblock\n", strings.Replace(example, "jump b1\n", "", 1), strings.Replace(example, "return r1\n", "func t1\n", 1), strings.Replace(example, "jump b1\n", "func t1\n", 1),
		strings.Replace(example, "jump b1\nblock\n", "block\n", 1), strings.Replace(example, "block\n", "block\nblock\n", 1),
	} {
		mustRefuse(t, s, api.ErrText)
	}
	// A block of its end alone.
	if e := mustAgree(t, example+"block\njump b2\n"); e != api.OK {
		t.Errorf("a block of an end: %d", e)
	}
}

// P7.1: a line behind an end that begins no block and no function; and one for a type behind a function.
func TestReadBehind(t *testing.T) {
	types := []string{"type int", "type ptr t0", "type fn t0", "type struct t0", "type array t0 2"}
	for _, line := range append(types, "r2 t0 = int 5", "r1 t0 = int 5", "r0 t0 = int 5", "print r0", "free r0", "jump b0", "jump b1", "branch r0 b0 b1", "return r1", "x", "=", "t0", "end") {
		mustRefuse(t, example+line, api.ErrText)
		mustRefuse(t, example+line+"\n"+strings.TrimPrefix(example, "type int\ntype fn t0\n"), api.ErrText)
		mustRefuse(t, strings.Replace(example, "jump b1\n", "jump b1\n"+line+"\n", 1), api.ErrText)
	}
	for _, line := range types {
		for _, at := range []string{"func t1\n", "block\n", "r0 t0 = int 5\n", "jump b1\n", "r1 t0 = add r0 r0\n", "return r1\n"} {
			mustRefuse(t, strings.Replace(example, at, at+line+"\n", 1), api.ErrText)
		}
	}
	// A type behind the last one, ahead of the first function, is one more.
	p := exampleProgram()
	p.Types = append(p.Types, api.Type{Kind: api.KPtr})
	mustRead(t, strings.Replace(example, "func", "type ptr t0\nfunc", 1), p)
	// A function, or a block, behind an end is one more.
	body := strings.TrimPrefix(example, "type int\ntype fn t0\n")
	p = exampleProgram()
	p.Funcs = append(p.Funcs, p.Funcs[0])
	mustRead(t, example+body, p)
}

// P7.1: of several errors the one that is named first is told: that of lex, then ErrText, then that of the types, then ErrShape.
func TestReadErrorsInOrder(t *testing.T) {
	long := strings.Repeat("x", 16385)
	wide := strings.Repeat("x ", 65)
	badText, badMany, badType, badShape := "x\n", strings.Repeat("type int\n", 17), "type struct\n", "func t999\n"
	for _, s := range []string{long, wide, long + wide} {
		for _, more := range []string{"", badText, badMany, badType, badShape, badType + badShape + badText} {
			mustRefuse(t, s+"\n"+more, api.ErrMany)
			mustRefuse(t, more+s, api.ErrMany)
		}
	}
	mustRefuse(t, badMany+badType+badShape+badText, api.ErrText)
	mustRefuse(t, badText+badMany, api.ErrText)
	mustRefuse(t, badType+badShape+badText, api.ErrText)
	mustRefuse(t, badShape+badText, api.ErrText)
	mustRefuse(t, badMany+badType+badShape, api.ErrMany)
	mustRefuse(t, badMany, api.ErrMany)
	mustRefuse(t, badType+badShape, api.ErrType)
	mustRefuse(t, badShape, api.ErrShape)
	mustRefuse(t, "type struct\nfunc t0\nblock\nr0 t0 = read\nreturn r9\n", api.ErrType)
	mustRefuse(t, "type struct\nfunc t0\nblock\nr0 t0 = read\nreturn x\n", api.ErrText)
}

// P7.1: texts that lex refuses, and those at its edges.
func TestReadLimits(t *testing.T) {
	for many := 16380; many <= 16390; many++ {
		s := example + strings.Repeat("#", many-len(example))
		if many > 16384 {
			mustRefuse(t, s, api.ErrMany)
		} else {
			mustRead(t, s, exampleProgram())
		}
	}
	for many := 60; many <= 70; many++ {
		s := example + strings.Repeat("x ", many)
		if many > 64 {
			mustRefuse(t, s, api.ErrMany)
		} else {
			mustRefuse(t, s, api.ErrText)
		}
		mustRead(t, example+"#"+strings.Repeat("x ", many), exampleProgram())
	}
}

// P7.1: programs that are too great: of types, of functions, of blocks, of instructions.
func TestReadGreat(t *testing.T) {
	one := "func t1\nblock\nr0 t0 = read\nreturn r0\n"
	for many := range 20 {
		want, wantTypes := api.OK, api.OK
		if many < 1 || many > 8 {
			want = api.ErrShape
		}
		if many > 14 {
			wantTypes = api.ErrMany
		}
		if e := mustAgree(t, "type int\ntype fn t0\n"+strings.Repeat(one, many)); e != want {
			t.Errorf("%d functions: %d; want %d", many, e, want)
		}
		if e := mustAgree(t, "type int\ntype fn t0\n"+strings.Repeat("type int\n", many)+one); e != wantTypes {
			t.Errorf("%d types: %d; want %d", many+2, e, wantTypes)
		}
		want = api.OK
		if many < 1 || many > 16 {
			want = api.ErrShape
		}
		if e := mustAgree(t, "type int\ntype fn t0 t0\nfunc t1\n"+strings.Repeat("block\nreturn r0\n", many)); e != want {
			t.Errorf("%d blocks: %d; want %d", many, e, want)
		}
	}
	for _, many := range []int{127, 128, 129, 400, 1000} {
		want := api.OK
		if many > 128 {
			want = api.ErrShape
		}
		if e := mustAgree(t, "type int\ntype fn t0 t0\nfunc t1\nblock\n"+strings.Repeat("print r0\n", many)+"return r0\n"); e != want {
			t.Errorf("%d instructions: %d; want %d", many, e, want)
		}
	}
	// A register above 999 has no mark.
	for many, want := range map[int]api.Errno{998: api.ErrShape, 999: api.ErrText, 1000: api.ErrText} {
		s := "type int\ntype fn t0 t0\nfunc t1\nblock\n" + strings.Repeat("free r0\n", many) + mark("r", many+1) + " t0 = read\nreturn r0\n"
		mustRefuse(t, s, want)
	}
}

// P7.1: programs that shape refuses, be it for their types or for another thing.
func TestReadNoShape(t *testing.T) {
	odd(t, "r3 t5 = int 5", "r3 t0 = add r0 r4", "r3 t1 = field r0 8", "r3 t2 = fn f2", "r3 t0 = call f2", "r3 t0 = call f0 r0 r0 r0 r0 r0", "r3 t0 = phi", "r3 t0 = phi b3 r0", "store r4 r0", "print r4")
	mustRefuse(t, strings.Replace(example, "func t1", "func t0", 1), api.ErrShape)
	mustRefuse(t, strings.Replace(example, "func t1", "func t2", 1), api.ErrShape)
	mustRefuse(t, strings.Replace(example, "jump b1", "jump b2", 1), api.ErrShape)
	mustRefuse(t, strings.Replace(example, "type fn t0", "type fn t2", 1), api.ErrType)
	mustRefuse(t, strings.Replace(example, "type int", "type struct t0", 1), api.ErrType)
	mustRefuse(t, strings.Replace(example, "type int", "type array t0 2", 1), api.ErrType)
	// Well formed it need not be.
	if e := mustAgree(t, strings.Replace(example, "r0 t0 = int 5", "r0 t1 = add r1 r0", 1)); e != api.OK {
		t.Errorf("a program that is not well formed: %d", e)
	}
}

// P7.2: blanks, lines without words, and what stands behind a #, count for nothing.
func TestReadBlanks(t *testing.T) {
	for _, s := range []string{
		strings.ReplaceAll(example, " ", "  "), strings.ReplaceAll(example, " ", "\t"), strings.ReplaceAll(example, " ", " \r\t "), strings.ReplaceAll(example, "\n", "\n\n"), strings.ReplaceAll(example, "\n", "\r\n"), strings.ReplaceAll(example, "\n", " \n "), strings.ReplaceAll(example, "\n", " # x\n"), strings.ReplaceAll(example, "\n", "#\n"), strings.ReplaceAll(example, "\n", "#return r0\n\t# block\n"), strings.ReplaceAll(example, "\n", "\n#\n \n"),
		strings.TrimSuffix(example, "\n"), "\n" + example, "# a program\n" + example, example + "\n\n", example + "#", example + " ", example + "# return r9", "\r" + example + "\r",
	} {
		mustRead(t, s, exampleProgram())
	}
	mustRefuse(t, strings.ReplaceAll(example, " ", "\v"), api.ErrText)
	mustRefuse(t, strings.ReplaceAll(example, " ", "\f"), api.ErrText)
	mustRefuse(t, strings.ReplaceAll(example, " ", "\u00a0"), api.ErrText)
	mustRefuse(t, strings.ReplaceAll(example, " ", ""), api.ErrText)
	mustRefuse(t, strings.ReplaceAll(example, "\n", " "), api.ErrText)
	mustRefuse(t, strings.ReplaceAll(example, " ", "\n"), api.ErrText)
	mustRefuse(t, strings.ReplaceAll(example, " int 5", " int # 5"), api.ErrText)
	mustRefuse(t, "//\n"+example, api.ErrText)
	mustRefuse(t, ";\n"+example, api.ErrText)
}

// P7.1: other ordinary programs: those of the document's examples of the whole.
func TestReadWholes(t *testing.T) {
	for _, f := range []string{
		"block / r0 t0 = int 7 / return r0",
		"block / r0 t1 = new / r1 t0 = int 7 / store r0 r1 / r3 t0 = load r0 / free r0 / return r3",
		"block / r0 t1 = null / r1 t0 = load r0 / return r1",
		"block / r0 t2 = fn f0 / r1 t0 = icall r0 / return r1",
		"block / r0 t1 = new / r1 t0 = call f0 / r2 t0 = load r0 / return r2",
		"block / r0 t1 = local / r1 t0 = read / store r0 r1 / store r0 r1 / r4 t0 = load r0 / r5 t0 = load r0 / r6 t0 = add r4 r5 / return r6",
	} {
		s := "type int\ntype ptr t0\ntype fn t0\nfunc t2\n" + strings.ReplaceAll(f, " / ", "\n") + "\n"
		if e := mustAgree(t, s); e != api.OK {
			t.Errorf("Read(%s): %d", s, e)
		}
		if p, _ := read.Read(s); textOf(p) != s {
			t.Errorf("Read(%s) is the program of %s", s, textOf(p))
		}
	}
	mustRefuse(t, "type int\ntype ptr t0\ntype fn t0\nfunc t2\nx\n", api.ErrText)
}

// chance is numbers that come out alike each time.
type chance uint64

func (c *chance) next(below int) int {
	*c = *c*6364136223846793005 + 1442695040888963407
	return int((uint64(*c) >> 33) % uint64(below))
}

// list answers so many numbers below another one.
func (c *chance) list(many, below int) []int {
	var l []int
	for range many {
		l = append(l, c.next(below))
	}
	return l
}

// types answers a table; nearly always it may be.
func (c *chance) types() []api.Type {
	l := []api.Type{{Kind: api.KInt}}
	for many := 2 + c.next(6); len(l) < many; {
		switch c.next(5) {
		case 0:
			l = append(l, api.Type{Kind: api.KInt})
		case 1:
			l = append(l, api.Type{Kind: api.KPtr, Elem: c.next(many)})
		case 2:
			l = append(l, api.Type{Kind: api.KFn, Parts: c.list(c.next(5), 1)})
		case 3:
			l = append(l, api.Type{Kind: api.KStruct, Parts: c.list(1+c.next(3), len(l))})
		case 4:
			l = append(l, api.Type{Kind: api.KArray, Elem: c.next(len(l)), Many: 1 + c.next(3)})
		}
	}
	return append(l, api.Type{Kind: api.KFn, Parts: c.list(c.next(4), 1)})
}

// ins answers an instruction, among so many types, functions, blocks and registers.
func (c *chance) ins(types, funcs, blocks, regs int) api.Ins {
	k := c.next(len(forms))
	x := api.Ins{Op: uint8(k + 1)}
	if forms[k].answers {
		x.Type = c.next(types)
	}
	for _, h := range forms[k].has {
		switch h {
		case 'A':
			x.A = c.next(regs)
		case 'B':
			x.B = c.next(regs)
		case 'f':
			x.N = int64(c.next(funcs))
		case 'n':
			x.N = int64(c.next(8))
		case 'N':
			x.N = int64(c.next(1<<30)-1<<29) * int64(c.next(1<<30)) * 16
		case '*':
			x.Args = c.list(c.next(5), regs)
		case '%':
			many := 1 + c.next(4)
			x.Args, x.From = c.list(many, regs), c.list(many, blocks)
		}
	}
	return x
}

// program answers one; nearly always its shape may be.
func (c *chance) program() api.Program {
	p := api.Program{Types: c.types()}
	var sigs []int
	for k, y := range p.Types {
		if y.Kind == api.KFn {
			sigs = append(sigs, k)
		}
	}
	funcs := 1 + c.next(3)
	for range funcs {
		f := api.Func{Sig: sigs[c.next(len(sigs))]}
		sizes := c.list(1+c.next(4), 6)
		regs := len(p.Types[f.Sig].Parts) + 1
		for _, many := range sizes {
			regs += many
		}
		for k, many := range sizes {
			b := api.Block{End: api.End{Kind: api.EndJump, To: c.next(len(sizes))}}
			switch c.next(3) {
			case 0:
				b.End = api.End{Kind: api.EndReturn, A: c.next(regs)}
			case 1:
				b.End = api.End{Kind: api.EndBranch, A: c.next(regs), To: c.next(len(sizes)), Else: c.next(len(sizes))}
			}
			if k == 0 {
				many++
			}
			for range many {
				b.Ins = append(b.Ins, c.ins(len(p.Types), funcs, len(sizes), regs))
			}
			f.Blocks = append(f.Blocks, b)
		}
		p.Funcs = append(p.Funcs, f)
	}
	return p
}

// P7.1, P7.2: the text of a program is read as that program, by the thousand.
func TestReadMixed(t *testing.T) {
	c, well := chance(7), 0
	for range 3000 {
		p := c.program()
		s := textOf(p)
		want := shape.Check(p)
		got, e := read.Read(s)
		if e != want {
			t.Fatalf("Read(%s): %d; want %d", short(s), e, want)
		}
		mustAgree(t, s)
		if e != api.OK {
			continue
		}
		well++
		if !same(got, p) || textOf(got) != s || shape.Check(got) != api.OK {
			t.Fatalf("Read(%s) = %+v; want %+v", short(s), got, p)
		}
	}
	if well < 2500 {
		t.Errorf("only %d of 3000 programs may be", well)
	}
}

// turn answers lines with one thing of them turned.
func (c *chance) turn(lines [][]string, pool []string) [][]string {
	all := append([][]string{}, lines...)
	k := c.next(len(all))
	words := all[k]
	turn := c.next(12)
	if len(words) == 0 {
		turn = 0
	}
	switch turn {
	case 0: // a line goes
		return append(all[:k], all[k+1:]...)
	case 1: // a line comes, of another place
		return append(all[:k:k], append([][]string{lines[c.next(len(lines))]}, all[k:]...)...)
	case 2: // two lines are turned round
		to := c.next(len(all))
		all[k], all[to] = all[to], all[k]
	case 3:
		all[k] = without(words, c.next(len(words)))
	case 4:
		all[k] = with(words, c.next(len(words)+1), pool[c.next(len(pool))])
	case 5:
		all[k] = instead(words, c.next(len(words)), pool[c.next(len(pool))])
	default: // a mark, or a number, is another one
		at := c.next(len(words))
		if w := strings.TrimRight(words[at], "0123456789"); w != words[at] {
			all[k] = instead(words, at, mark(w, c.next(10)))
		}
	}
	return all
}

// P1, P7.1, P7.2: texts with a thing turned here and there are answered as the document's words say; what is read has a shape that may be.
func TestReadTurned(t *testing.T) {
	c, told := chance(11), map[api.Errno]int{}
	pool := strings.Fields("r0 r1 r2 r3 r4 r5 r9 r999 r1000 r01 t0 t1 t2 t3 t999 b0 b1 b2 b9 f0 f1 f2 = 0 1 7 8 999 1000 -1 05 type func block jump branch return int ptr struct array x")
	for _, f := range forms {
		pool = append(pool, f.word)
	}
	for range 20000 {
		lines, _ := lex.Lines(textOf(c.program()))
		for range 1 + c.next(2) {
			lines = c.turn(lines, pool)
		}
		var l []string
		for _, words := range lines {
			l = append(l, strings.Join(words, " "))
		}
		told[mustAgree(t, lined(l...))]++
	}
	for _, e := range []api.Errno{api.OK, api.ErrText, api.ErrType, api.ErrShape} {
		if told[e] < 100 {
			t.Errorf("texts are too much alike: %v", told)
		}
	}
}

// P1: whatever the bytes, a call ends, and does not panic.
func TestReadBytes(t *testing.T) {
	for n := range 256 {
		b := string([]byte{byte(n)})
		for _, s := range []string{b, b + b, b + example, example + b, strings.Repeat(b, 16384), strings.Repeat(b, 16385), strings.Repeat(b+"\n", 8000), "type " + b, "func " + b, "r0 t0 = " + b, strings.ReplaceAll(example, " ", b), strings.ReplaceAll(example, "\n", b), strings.ReplaceAll(example, "t", b)} {
			mustAgree(t, s)
		}
	}
	for at := range len(example) {
		mustAgree(t, example[:at])
		mustAgree(t, example[at:])
		for n := range 128 {
			mustAgree(t, example[:at]+string([]byte{byte(n)})+example[at+1:])
			mustAgree(t, example[:at]+string([]byte{byte(n)})+example[at:])
		}
	}
}

// P1: what is answered is new memory, no two lists of it share any, and nothing is kept from call to call.
func TestReadIsNew(t *testing.T) {
	s := aroundLines("r3 t0 = phi b0 r0 b1 r1", "r4 t0 = call f1 r0 r1", "r5 t0 = icall r0 r1 r2", "return r5")
	want, e := wanted(s)
	if e != api.OK {
		t.Fatal("the text may be")
	}
	p, _ := read.Read(s)
	scribble(&p)
	q, e := read.Read(s)
	if e != api.OK || !same(q, want) {
		t.Errorf("read again: %+v, %d; want %+v", q, e, want)
	}
	for _, l := range lists(&q) {
		_ = append(*l, 77) // room behind a list is no other list's
	}
	for k := range q.Funcs {
		_ = append(q.Funcs[k].Blocks, api.Block{})
		for b := range q.Funcs[k].Blocks {
			_ = append(q.Funcs[k].Blocks[b].Ins, api.Ins{Op: 77})
		}
	}
	if !same(q, want) {
		t.Error("lists share memory")
	}
	read.Read("x")
	read.Read("")
	if r, e := read.Read(s); e != api.OK || !same(r, want) || !same(q, want) {
		t.Errorf("read once more: %+v, %d; want %+v", r, e, want)
	}
}

// lists answers the lists of numbers of p.
func lists(p *api.Program) []*[]int {
	var l []*[]int
	for k := range p.Types {
		l = append(l, &p.Types[k].Parts)
	}
	for f := range p.Funcs {
		for b := range p.Funcs[f].Blocks {
			for k := range p.Funcs[f].Blocks[b].Ins {
				x := &p.Funcs[f].Blocks[b].Ins[k]
				l = append(l, &x.Args, &x.From)
			}
		}
	}
	return l
}

// scribble writes into all of p.
func scribble(p *api.Program) {
	for _, l := range lists(p) {
		for k := range *l {
			(*l)[k] = 77
		}
	}
	for f := range p.Funcs {
		for b := range p.Funcs[f].Blocks {
			l := p.Funcs[f].Blocks[b].Ins
			for k := range l {
				l[k] = api.Ins{Op: 77}
			}
			p.Funcs[f].Blocks[b] = api.Block{}
		}
		p.Funcs[f] = api.Func{Sig: 77}
	}
	for k := range p.Types {
		p.Types[k] = api.Type{Kind: 77}
	}
}
