package write_test

import (
	"fmt"
	"math"
	"reflect"
	"slices"
	"strconv"
	"strings"
	"testing"
	"unsafe"

	"fescue/api"
	"fescue/lex"
	"fescue/read"
	"fescue/shape"
	"fescue/write"
)

// The document's example.
const example = "type int\ntype fn t0\nfunc t1\nblock\nr0 t0 = int 5\njump b1\nblock\nr1 t0 = add r0 r0\nreturn r1\n"

func exampleProgram() api.Program {
	return api.Program{
		Types: []api.Type{{Kind: api.KInt}, {Kind: api.KFn}},
		Funcs: []api.Func{{Sig: 1, Blocks: []api.Block{
			{Ins: []api.Ins{{Op: api.OpInt, N: 5}}, End: api.End{Kind: api.EndJump, To: 1}},
			{Ins: []api.Ins{{Op: api.OpAdd}}, End: api.End{Kind: api.EndReturn, A: 1}},
		}}},
	}
}

// lined answers the text of lines.
func lined(l ...string) string { return strings.Join(l, "\n") + "\n" }

// short answers a text, or the beginning of one that is long.
func short(s string) string {
	if len(s) <= 600 {
		return s
	}
	return s[:600] + " .. and so on, " + strconv.Itoa(len(s)) + " bytes"
}

// marks answers a mark of each number, each with a space ahead.
func marks(c string, l ...int) string {
	s := ""
	for _, n := range l {
		s += " " + c + strconv.Itoa(n)
	}
	return s
}

// mustOwn holds p's text against what makes it p's own: it is read as p, no word of it can be shorter, and it has no blank and no line too many. It answers the text.
func mustOwn(t *testing.T, p api.Program) string {
	t.Helper()
	s, e := write.Write(p)
	if e != api.OK {
		t.Fatalf("Write(%+v): %d", p, e)
	}
	if q, e := read.Read(s); e != api.OK || !shape.Same(p, q) {
		t.Fatalf("Write(%+v) is %s, which is read as %+v, %d", p, short(s), q, e)
	}
	lines, _ := lex.Lines(s)
	if plain, e := lex.Join(lines); plain != s || e != api.OK {
		t.Fatalf("Write(%+v) = %q; plainly it is %q, %d", p, short(s), short(plain), e)
	}
	if own, e := write.Canon(s); own != s || e != api.OK {
		t.Fatalf("Canon(%s) = %s, %d; want the same", short(s), short(own), e)
	}
	return s
}

// mustWrite holds what Write answers of p against a text.
func mustWrite(t *testing.T, p api.Program, want string) {
	t.Helper()
	if s := mustOwn(t, p); s != want {
		t.Errorf("Write(%+v) = %q; want %q", p, short(s), short(want))
	}
}

// mustRefuse holds Write of p against an error, with nothing beside it.
func mustRefuse(t *testing.T, p api.Program, want api.Errno) {
	t.Helper()
	if s, e := write.Write(p); e != want || s != "" {
		t.Errorf("Write(%s) = %q, %d; want nothing, %d", short(fmt.Sprintf("%+v", p)), short(s), e, want)
	}
}

// mustCanon holds what Canon answers of s against a text.
func mustCanon(t *testing.T, s, want string) {
	t.Helper()
	if own, e := write.Canon(s); own != want || e != api.OK {
		t.Errorf("Canon(%q) = %q, %d; want %q, OK", short(s), short(own), e, short(want))
	}
}

// mustRefuseText holds Canon of s against an error, with nothing beside it.
func mustRefuseText(t *testing.T, s string, want api.Errno) {
	t.Helper()
	if own, e := write.Canon(s); e != want || own != "" {
		t.Errorf("Canon(%q) = %q, %d; want nothing, %d", short(s), short(own), e, want)
	}
}

// The types of most programs here.
func table() []api.Type {
	return []api.Type{{Kind: api.KInt}, {Kind: api.KPtr, Elem: 4}, {Kind: api.KFn}, {Kind: api.KFn, Parts: []int{0, 1}}, {Kind: api.KStruct, Parts: []int{0, 1}}}
}

const tableText = "type int\ntype ptr t4\ntype fn t0\ntype fn t0 t0 t1\ntype struct t0 t1\n"

// around answers a program with instructions in it, and with an end: they stand in the second function, of two parameters, as its register 3 and on, in the middle one of three blocks.
func around(end api.End, l ...api.Ins) api.Program {
	return api.Program{Types: table(), Funcs: []api.Func{
		{Sig: 2, Blocks: []api.Block{{Ins: []api.Ins{{Op: api.OpInt, N: 7}}, End: api.End{Kind: api.EndReturn}}}},
		{Sig: 3, Blocks: []api.Block{
			{Ins: []api.Ins{{Op: api.OpInt, N: 1}}, End: api.End{Kind: api.EndBranch, A: 2, To: 1, Else: 2}},
			{Ins: l, End: end},
			{End: api.End{Kind: api.EndReturn}},
		}},
	}}
}

// aroundText answers the text of a program with lines in it.
func aroundText(l ...string) string {
	return tableText + "func t2\nblock\nr0 t0 = int 7\nreturn r0\nfunc t3\nblock\nr2 t0 = int 1\nbranch r2 b1 b2\nblock\n" + lined(l...) + "block\nreturn r0\n"
}

// mustIns holds what is written around an instruction against its line.
func mustIns(t *testing.T, x api.Ins, line string) {
	t.Helper()
	mustWrite(t, around(api.End{Kind: api.EndJump, To: 2}, x), aroundText(line, "jump b2"))
}

// odd holds Write around an instruction against ErrShape.
func odd(t *testing.T, l ...api.Ins) {
	t.Helper()
	for _, x := range l {
		mustRefuse(t, around(api.End{Kind: api.EndJump, To: 2}, x), api.ErrShape)
	}
}

// P8.1: the document's example.
func TestExample(t *testing.T) {
	mustWrite(t, exampleProgram(), example)
	mustCanon(t, example, example)
	mustCanon(t, " type  int # a number\n\ntype\tfn t0\r\n#\nfunc t1\nblock\n\n  r0 t0 = int 5\n  jump b1 # on\nblock # 1\n\tr1 t0 = add r0  r0\n\treturn r1", example)
}

// P8.1: each instruction's line, with its register and type ahead of it where it answers, and without where it does not.
func TestInstructions(t *testing.T) {
	mustIns(t, api.Ins{Op: api.OpInt, N: -12}, "r3 t0 = int -12")
	mustIns(t, api.Ins{Op: api.OpNull, Type: 1}, "r3 t1 = null")
	mustIns(t, api.Ins{Op: api.OpFn, Type: 2, N: 1}, "r3 t2 = fn f1")
	mustIns(t, api.Ins{Op: api.OpAdd, A: 1, B: 2}, "r3 t0 = add r1 r2")
	mustIns(t, api.Ins{Op: api.OpSub, A: 2, B: 1}, "r3 t0 = sub r2 r1")
	mustIns(t, api.Ins{Op: api.OpMul, A: 1, B: 3}, "r3 t0 = mul r1 r3")
	mustIns(t, api.Ins{Op: api.OpDiv, A: 3, B: 1}, "r3 t0 = div r3 r1")
	mustIns(t, api.Ins{Op: api.OpLess, A: 1, B: 2}, "r3 t0 = less r1 r2")
	mustIns(t, api.Ins{Op: api.OpEq, A: 2, B: 2}, "r3 t0 = eq r2 r2")
	mustIns(t, api.Ins{Op: api.OpSame, Type: 3, A: 1, B: 2}, "r3 t3 = same r1 r2")
	mustIns(t, api.Ins{Op: api.OpNew, Type: 1}, "r3 t1 = new")
	mustIns(t, api.Ins{Op: api.OpLocal, Type: 1}, "r3 t1 = local")
	mustIns(t, api.Ins{Op: api.OpFree, A: 1}, "free r1")
	mustIns(t, api.Ins{Op: api.OpField, Type: 1, A: 2, N: 6}, "r3 t1 = field r2 6")
	mustIns(t, api.Ins{Op: api.OpElem, Type: 1, A: 1, B: 2}, "r3 t1 = elem r1 r2")
	mustIns(t, api.Ins{Op: api.OpLoad, Type: 4, A: 1}, "r3 t4 = load r1")
	mustIns(t, api.Ins{Op: api.OpStore, A: 1, B: 2}, "store r1 r2")
	mustIns(t, api.Ins{Op: api.OpStore, A: 2, B: 0}, "store r2 r0")
	mustIns(t, api.Ins{Op: api.OpCall, N: 1, Args: []int{0, 1}}, "r3 t0 = call f1 r0 r1")
	mustIns(t, api.Ins{Op: api.OpICall, Type: 1, A: 2, Args: []int{0, 1}}, "r3 t1 = icall r2 r0 r1")
	mustIns(t, api.Ins{Op: api.OpRead}, "r3 t0 = read")
	mustIns(t, api.Ins{Op: api.OpPrint, A: 3}, "print r3")
	mustIns(t, api.Ins{Op: api.OpPhi, Type: 1, From: []int{1, 0}, Args: []int{2, 1}}, "r3 t1 = phi b1 r2 b0 r1")
}

// P8.1: what is 0 is told, too.
func TestNoughts(t *testing.T) {
	for op, line := range map[uint8]string{
		api.OpInt: "r3 t0 = int 0", api.OpNull: "r3 t0 = null", api.OpFn: "r3 t0 = fn f0", api.OpAdd: "r3 t0 = add r0 r0", api.OpSub: "r3 t0 = sub r0 r0", api.OpMul: "r3 t0 = mul r0 r0", api.OpDiv: "r3 t0 = div r0 r0", api.OpLess: "r3 t0 = less r0 r0", api.OpEq: "r3 t0 = eq r0 r0", api.OpSame: "r3 t0 = same r0 r0", api.OpNew: "r3 t0 = new", api.OpLocal: "r3 t0 = local", api.OpFree: "free r0", api.OpField: "r3 t0 = field r0 0", api.OpElem: "r3 t0 = elem r0 r0", api.OpLoad: "r3 t0 = load r0", api.OpStore: "store r0 r0", api.OpCall: "r3 t0 = call f0", api.OpICall: "r3 t0 = icall r0", api.OpRead: "r3 t0 = read", api.OpPrint: "print r0",
	} {
		mustIns(t, api.Ins{Op: op}, line)
	}
	mustIns(t, api.Ins{Op: api.OpPhi, From: []int{0}, Args: []int{0}}, "r3 t0 = phi b0 r0")
}

// P8.1: the number of an int, from the least to the greatest.
func TestInts(t *testing.T) {
	for n, s := range map[int64]string{
		0: "0", 1: "1", -1: "-1", 9: "9", 10: "10", -10: "-10", 999: "999", 1000: "1000", -1000: "-1000", 1_000_001: "1000001", 1 << 32: "4294967296",
		math.MaxInt64: "9223372036854775807", math.MaxInt64 - 1: "9223372036854775806", math.MinInt64: "-9223372036854775808", math.MinInt64 + 1: "-9223372036854775807",
	} {
		mustIns(t, api.Ins{Op: api.OpInt, N: n}, "r3 t0 = int "+s)
	}
}

// P8.1, P8.3: the number of a field and that of an array are plain ones.
func TestBounds(t *testing.T) {
	for n := range 8 {
		mustIns(t, api.Ins{Op: api.OpField, Type: 1, A: 2, N: int64(n)}, "r3 t1 = field r2 "+strconv.Itoa(n))
	}
	for _, n := range []int64{-1, 8, 9, 999, math.MinInt64, math.MaxInt64} {
		odd(t, api.Ins{Op: api.OpField, Type: 1, A: 2, N: n})
	}
	for n := 1; n <= 16; n++ {
		mustType(t, api.Type{Kind: api.KArray, Elem: 1, Many: n}, "type array t1 "+strconv.Itoa(n))
	}
	for _, n := range []int{-1, 0, 17, math.MinInt, math.MaxInt} {
		mustRefuse(t, withType(api.Type{Kind: api.KArray, Elem: 1, Many: n}), api.ErrType)
	}
}

// withType answers a program that has a type as its type 2, which nothing else is of.
func withType(y api.Type) api.Program {
	p := exampleProgram()
	p.Types = append(p.Types, y)
	return p
}

// mustType holds what is written of a type against its line.
func mustType(t *testing.T, y api.Type, line string) {
	t.Helper()
	mustWrite(t, withType(y), strings.Replace(example, "func", line+"\nfunc", 1))
}

// P8.1: types of each kind; a struct and a function type of no, of one and of the most parts.
func TestTypes(t *testing.T) {
	mustType(t, api.Type{Kind: api.KInt}, "type int")
	for n := range 3 {
		mustType(t, api.Type{Kind: api.KPtr, Elem: n}, "type ptr t"+strconv.Itoa(n))
		mustType(t, api.Type{Kind: api.KFn, Elem: n}, "type fn t"+strconv.Itoa(n))
		mustType(t, api.Type{Kind: api.KFn, Elem: n, Parts: []int{2, 1, 0, n}}, "type fn"+marks("t", n, 2, 1, 0, n))
	}
	for n := range 2 {
		mustType(t, api.Type{Kind: api.KArray, Elem: n, Many: 3}, "type array t"+strconv.Itoa(n)+" 3")
		mustType(t, api.Type{Kind: api.KStruct, Parts: []int{n}}, "type struct t"+strconv.Itoa(n))
	}
	parts := []int{0, 1, 1, 0, 1, 0, 0, 1, 1, 0}
	for many := range 10 {
		call, struc := api.Type{Kind: api.KFn, Elem: 1, Parts: parts[:many]}, api.Type{Kind: api.KStruct, Parts: parts[:many]}
		if many <= 4 {
			mustType(t, call, "type fn t1"+marks("t", parts[:many]...))
		} else {
			mustRefuse(t, withType(call), api.ErrType)
		}
		if many >= 1 && many <= 8 {
			mustType(t, struc, "type struct"+marks("t", parts[:many]...))
		} else {
			mustRefuse(t, withType(struc), api.ErrType)
		}
	}
}

// P8.1: a call and an icall of no register and of the most, a phi of one pair and of the most.
func TestArgs(t *testing.T) {
	args, from := []int{3, 1, 0, 2, 2, 0, 1, 3, 0, 1, 2, 3, 3, 2, 1, 0, 1}, []int{2, 1, 0, 0, 1, 2, 2, 0, 1, 1, 0, 2, 0, 0, 2, 1, 1}
	pairs := ""
	for many := range 18 {
		call, icall := api.Ins{Op: api.OpCall, Type: 4, N: 1, Args: args[:many]}, api.Ins{Op: api.OpICall, Type: 4, A: 1, Args: args[:many]}
		if many <= 4 {
			mustIns(t, call, "r3 t4 = call f1"+marks("r", args[:many]...))
			mustIns(t, icall, "r3 t4 = icall r1"+marks("r", args[:many]...))
		} else {
			odd(t, call, icall)
		}
		phi := api.Ins{Op: api.OpPhi, Type: 4, Args: args[:many], From: from[:many]}
		if many >= 1 && many <= 16 {
			pairs += marks("b", from[many-1]) + marks("r", args[many-1])
			mustIns(t, phi, "r3 t4 = phi"+pairs)
		} else {
			odd(t, phi)
		}
	}
}

// P8.1: each end.
func TestEnds(t *testing.T) {
	for n := range 3 {
		k := (n + 1) % 3
		mustWrite(t, around(api.End{Kind: api.EndJump, To: n}), aroundText("jump"+marks("b", n)))
		mustWrite(t, around(api.End{Kind: api.EndReturn, A: n}), aroundText("return"+marks("r", n)))
		mustWrite(t, around(api.End{Kind: api.EndBranch, A: n, To: k, Else: n}), aroundText("branch"+marks("r", n)+marks("b", k, n)))
		mustWrite(t, around(api.End{Kind: api.EndBranch, A: k, To: n, Else: n}), aroundText("branch"+marks("r", k)+marks("b", n, n)))
	}
	for _, x := range []api.End{{}, {Kind: 4}, {Kind: api.EndJump, A: 1}, {Kind: api.EndJump, To: 3}, {Kind: api.EndReturn, A: 3}, {Kind: api.EndReturn, To: 1}, {Kind: api.EndBranch, Else: 3}, {Kind: api.EndBranch, A: -1}} {
		mustRefuse(t, around(x), api.ErrShape)
	}
}

// P8.1: a register behind what does not answer, behind several blocks, and of a second function.
func TestRegisters(t *testing.T) {
	ret := func(a int) api.End { return api.End{Kind: api.EndReturn, A: a} }
	mustWrite(t, around(ret(7), api.Ins{Op: api.OpFree}, api.Ins{Op: api.OpInt, N: 5}, api.Ins{Op: api.OpPrint, A: 4}, api.Ins{Op: api.OpStore, B: 4}, api.Ins{Op: api.OpRead}),
		aroundText("free r0", "r4 t0 = int 5", "print r4", "store r0 r4", "r7 t0 = read", "return r7"))
	one := api.Func{Sig: 3, Blocks: []api.Block{
		{Ins: []api.Ins{{Op: api.OpRead}, {Op: api.OpPrint, A: 2}}, End: api.End{Kind: api.EndJump, To: 1}},
		{End: api.End{Kind: api.EndJump, To: 2}},
		{Ins: []api.Ins{{Op: api.OpFree, A: 1}}, End: api.End{Kind: api.EndJump, To: 3}},
		{Ins: []api.Ins{{Op: api.OpNull, Type: 1}, {Op: api.OpRead}}, End: ret(6)},
	}}
	other := api.Func{Sig: 2, Blocks: []api.Block{{Ins: []api.Ins{{Op: api.OpRead}}, End: api.End{Kind: api.EndJump, To: 1}}, {Ins: []api.Ins{{Op: api.OpRead}}, End: ret(1)}}}
	oneText := "func t3\nblock\nr2 t0 = read\nprint r2\njump b1\nblock\njump b2\nblock\nfree r1\njump b3\nblock\nr5 t1 = null\nr6 t0 = read\nreturn r6\n"
	otherText := "func t2\nblock\nr0 t0 = read\njump b1\nblock\nr1 t0 = read\nreturn r1\n"
	mustWrite(t, api.Program{Types: table(), Funcs: []api.Func{one, other}}, tableText+oneText+otherText)
	mustWrite(t, api.Program{Types: table(), Funcs: []api.Func{other, one, other}}, tableText+otherText+oneText+otherText)
}

// greatest answers a program of as many types, functions, blocks and instructions as may be, and its text by the document's words.
func greatest() (api.Program, string) {
	p := api.Program{Types: []api.Type{{Kind: api.KInt}}}
	text := "type int\n"
	for len(p.Types) < 15 {
		p.Types = append(p.Types, api.Type{Kind: api.KPtr, Elem: 15})
		text += "type ptr t15\n"
	}
	p.Types = append(p.Types, api.Type{Kind: api.KFn, Elem: 15, Parts: []int{15, 0, 1, 14}})
	text += "type fn t15 t15 t0 t1 t14\n"
	for range 8 {
		f := api.Func{Sig: 15}
		text += "func t15\n"
		for b := range 16 {
			block := api.Block{End: api.End{Kind: api.EndBranch, A: 131, To: 15 - b, Else: b}}
			text += "block\n"
			for range 8 {
				block.Ins = append(block.Ins, api.Ins{Op: api.OpFree, A: b})
				text += "free r" + strconv.Itoa(b) + "\n"
			}
			f.Blocks = append(f.Blocks, block)
			text += "branch r131" + marks("b", 15-b, b) + "\n"
		}
		p.Funcs = append(p.Funcs, f)
	}
	return p, text
}

// P8.1: types, functions, blocks and registers of the greatest numbers.
func TestGreatest(t *testing.T) {
	p, text := greatest()
	mustWrite(t, p, text)
	l := p.Funcs[7].Blocks[15].Ins
	last := strings.LastIndex(text, "free r15\n")
	for line, x := range map[string]api.Ins{
		"r131 t15 = fn f7": {Op: api.OpFn, Type: 15, N: 7}, "r131 t15 = call f7 r131 r0 r131 r130": {Op: api.OpCall, Type: 15, N: 7, Args: []int{131, 0, 131, 130}}, "r131 t0 = add r130 r131": {Op: api.OpAdd, A: 130, B: 131},
		"r131 t15 = phi b15 r131 b0 r0 b15 r131": {Op: api.OpPhi, Type: 15, From: []int{15, 0, 15}, Args: []int{131, 0, 131}}, "r131 t15 = new": {Op: api.OpNew, Type: 15}, "r131 t15 = icall r131 r131": {Op: api.OpICall, Type: 15, A: 131, Args: []int{131}}, "store r131 r100": {Op: api.OpStore, A: 131, B: 100},
	} {
		l[7] = x
		mustWrite(t, p, text[:last]+line+"\n"+text[last+len("free r15\n"):])
	}
	for _, end := range []string{"jump b15\n", "return r131\n"} {
		p.Funcs[7].Blocks[15].End = api.End{Kind: api.EndJump, To: 15}
		if end != "jump b15\n" {
			p.Funcs[7].Blocks[15].End = api.End{Kind: api.EndReturn, A: 131}
		}
		if s := mustOwn(t, p); !strings.HasSuffix(s, "\n"+end) {
			t.Errorf("the last line is not %s", end)
		}
	}
}

// sized answers a program whose own text has just so many bytes, from some 12,000 to 25,000.
func sized(size int) api.Program {
	p := api.Program{Types: []api.Type{{Kind: api.KInt}, {Kind: api.KFn}}}
	size -= len("type int\ntype fn t0\n")
	for range 8 {
		b := api.Block{Ins: slices.Repeat([]api.Ins{{Op: api.OpInt}}, 100), End: api.End{Kind: api.EndReturn, A: 99}}
		p.Funcs = append(p.Funcs, api.Func{Sig: 1, Blocks: []api.Block{b}})
		size -= len("func t1\nblock\nreturn r99\n") + 10*len("r0 t0 = int 0\n") + 90*len("r10 t0 = int 0\n")
	}
	for k := 0; size > 0; k++ {
		digit := int64(1)
		for range min(size, 17) { // each noughts more are as many bytes more
			digit, size = digit*10, size-1
		}
		p.Funcs[k%8].Blocks[0].Ins[k/8].N = digit
	}
	return p
}

// P8.1: texts of about MaxText bytes, and of far more.
func TestMaxText(t *testing.T) {
	for _, size := range []int{13000, 16000, 16382, 16383, 16384} {
		if s := mustOwn(t, sized(size)); len(s) != size {
			t.Errorf("a text of %d bytes has %d", size, len(s))
		}
	}
	for _, size := range []int{16385, 16386, 17000, 24000} {
		mustRefuse(t, sized(size), api.ErrMany)
	}
	p, _ := greatest()
	for f := range p.Funcs {
		for b := range p.Funcs[f].Blocks {
			for k := range p.Funcs[f].Blocks[b].Ins {
				p.Funcs[f].Blocks[b].Ins[k] = api.Ins{Op: api.OpPhi, Type: 15, Args: slices.Repeat([]int{131}, 16), From: slices.Repeat([]int{15}, 16)}
			}
		}
	}
	if shape.Check(p) != api.OK {
		t.Error("the greatest program may be")
	}
	mustRefuse(t, p, api.ErrMany)
}

// P8.1: texts of about MaxText bytes, of programs whose own text is shorter, as long, and longer: a line feed stands behind the last line, too.
func TestCanonMaxText(t *testing.T) {
	s, _ := write.Write(sized(16384))
	if len(s) != 16384 || !strings.Contains(s, "int 1") {
		t.Fatalf("a text of MaxText bytes has %d", len(s))
	}
	mustCanon(t, s, s)
	mustCanon(t, s[:16383], s)
	longer := strings.Replace(s[:16383], "int 1", "int 11", 1)
	if _, e := read.Read(longer); e != api.OK || len(longer) != 16384 {
		t.Fatalf("a text of MaxText bytes is no program's: %d", e)
	}
	mustRefuseText(t, longer, api.ErrMany)
	mustRefuseText(t, longer+"\n", api.ErrMany)
	mustRefuseText(t, s+"\n", api.ErrMany)
	mustRefuseText(t, s+" ", api.ErrMany)
	mustRefuseText(t, "#"+s, api.ErrMany)
	for _, more := range []string{"#", " ", "\n", "\t", "\r"} {
		mustCanon(t, example+strings.Repeat(more, 16384-len(example)), example)
		mustRefuseText(t, example+strings.Repeat(more, 16385-len(example)), api.ErrMany)
	}
}

// P8.1, P8.3: blanks, lines without words, and comments go.
func TestBlanks(t *testing.T) {
	for _, own := range []string{example, aroundText("r3 t0 = phi b0 r0 b1 r1", "store r1 r3", "r5 t0 = icall r0 r1 r2", "return r5"), aroundText("jump b1")} {
		mustCanon(t, own, own)
		for _, blank := range []string{"  ", "\t", "\r", " \r\t ", "\t\t\t"} {
			mustCanon(t, strings.ReplaceAll(own, " ", blank), own)
			mustCanon(t, blank+strings.ReplaceAll(own, "\n", blank+"\n"+blank), own)
		}
		for _, feed := range []string{"\n\n", "\r\n", " \n ", "#\n", " # x\n", "#return r0\n\t# block\n", "\n#\n \n", "## a b c # d\n\n\n", "#\xff\x00\n"} {
			mustCanon(t, strings.ReplaceAll(own, "\n", feed), own)
		}
		for _, s := range []string{strings.TrimSuffix(own, "\n"), "\n" + own, "# a program\n" + own, own + "\n\n", own + "#", own + " ", own + "# return r9", "\r" + own + "\r"} {
			mustCanon(t, s, own)
		}
	}
}

// P8.1: ordinary programs: those of the document's examples of the whole.
func TestWholes(t *testing.T) {
	for _, f := range []string{
		"block / r0 t0 = int 7 / return r0",
		"block / r0 t1 = new / r1 t0 = int 7 / store r0 r1 / r3 t0 = load r0 / free r0 / return r3",
		"block / r0 t1 = null / r1 t0 = load r0 / return r1",
		"block / r0 t0 = int 1 / r1 t0 = sub r0 r0 / r2 t0 = div r0 r1 / return r0",
		"block / r0 t2 = fn f0 / r1 t0 = icall r0 / return r1",
		"block / r0 t1 = new / r1 t0 = call f0 / r2 t0 = load r0 / return r2",
		"block / r0 t1 = local / r1 t0 = read / store r0 r1 / store r0 r1 / r4 t0 = load r0 / r5 t0 = load r0 / r6 t0 = add r4 r5 / return r6",
	} {
		s := "type int\ntype ptr t0\ntype fn t0\nfunc t2\n" + strings.ReplaceAll(f, " / ", "\n") + "\n"
		mustCanon(t, s, s)
		p, e := read.Read(s)
		if e != api.OK {
			t.Fatalf("Read(%s): %d", s, e)
		}
		mustWrite(t, p, s)
	}
	mustRefuseText(t, "type int\ntype ptr t0\ntype fn t0\nfunc t2\nx\n", api.ErrText)
}

// P8.1: programs that shape refuses, be it for their types or for another thing, and in what order the errors come.
func TestWriteRefuses(t *testing.T) {
	mustRefuse(t, api.Program{}, api.ErrShape)
	mustRefuse(t, api.Program{Types: table()}, api.ErrShape)
	many := slices.Repeat([]api.Type{{Kind: api.KInt}}, 17)
	odds := []api.Type{{Kind: api.KInt}, {Kind: api.KStruct}}
	long := sized(17000)
	for _, funcs := range [][]api.Func{nil, {{Sig: 1}}, {{Sig: -1}}, exampleProgram().Funcs, long.Funcs, slices.Repeat(exampleProgram().Funcs, 9), make([]api.Func, 100_000)} {
		mustRefuse(t, api.Program{Types: many, Funcs: funcs}, api.ErrMany)
		mustRefuse(t, api.Program{Types: append(slices.Clone(odds), many...), Funcs: funcs}, api.ErrMany)
		mustRefuse(t, api.Program{Types: odds, Funcs: funcs}, api.ErrType)
	}
	for _, y := range []api.Type{{}, {Kind: 6}, {Kind: api.KInt, Elem: 1}, {Kind: api.KInt, Parts: []int{0}}, {Kind: api.KPtr, Elem: 3}, {Kind: api.KPtr, Elem: -1}, {Kind: api.KFn, Elem: 3}, {Kind: api.KStruct, Parts: []int{2}}, {Kind: api.KArray, Many: 17}} {
		mustRefuse(t, withType(y), api.ErrType)
	}
	long.Funcs[7].Blocks[0].End.A = 100 // its text would be too long
	mustRefuse(t, long, api.ErrShape)
	long = sized(17000)
	long.Types[0].Kind = 0
	mustRefuse(t, long, api.ErrType)
	p := exampleProgram()
	p.Funcs = slices.Repeat(p.Funcs, 9)
	mustRefuse(t, p, api.ErrShape)
	p = exampleProgram()
	p.Funcs[0].Sig = 0
	mustRefuse(t, p, api.ErrShape)
	p = exampleProgram()
	p.Funcs[0].Blocks = slices.Repeat(p.Funcs[0].Blocks, 9)
	mustRefuse(t, p, api.ErrShape)
	odd(t, api.Ins{}, api.Ins{Op: 23}, api.Ins{Op: 255, Type: 1}, api.Ins{Op: api.OpInt, A: 1}, api.Ins{Op: api.OpInt, Type: 5}, api.Ins{Op: api.OpAdd, B: 4}, api.Ins{Op: api.OpFn, N: 2}, api.Ins{Op: api.OpCall, N: -1}, api.Ins{Op: api.OpFree, Type: 1}, api.Ins{Op: api.OpPhi}, api.Ins{Op: api.OpPhi, Args: []int{0, 1}, From: []int{0}}, api.Ins{Op: api.OpPhi, Args: []int{0}, From: []int{0, 1}}, api.Ins{Op: api.OpCall, Args: []int{0}, From: []int{0}}, api.Ins{Op: api.OpICall, Args: []int{4}})
}

// P8.1: texts that read refuses, and in what order the errors come.
func TestCanonRefuses(t *testing.T) {
	long, wide := strings.Repeat("x", 16385), strings.Repeat("x ", 65)
	badText, badMany, badType, badShape := "x\n", strings.Repeat("type int\n", 17), "type struct\n", "func t999\n"
	for _, s := range []string{long, wide} {
		for _, more := range []string{"", badText, badType, badShape, badType + badShape + badText} {
			mustRefuseText(t, s+"\n"+more, api.ErrMany)
			mustRefuseText(t, more+s, api.ErrMany)
		}
	}
	for s, want := range map[string]api.Errno{
		"": api.ErrShape, "\n": api.ErrShape, "#": api.ErrShape, "type int": api.ErrShape, badText: api.ErrText, badMany: api.ErrMany, badType: api.ErrType, badShape: api.ErrShape,
		badMany + badText: api.ErrText, badMany + badType + badShape: api.ErrMany, badType + badShape + badText: api.ErrText, badType + badShape: api.ErrType, badShape + badText: api.ErrText,
		example + "x": api.ErrText, example + example: api.ErrText, strings.Replace(example, "r1 t0", "r2 t0", 1): api.ErrText, strings.TrimSuffix(example, "return r1\n"): api.ErrText, strings.Replace(example, "int 5", "int 05", 1): api.ErrText, strings.Replace(example, "r0 t0", "r00 t0", 1): api.ErrText,
		strings.Replace(example, "return r1", "return r2", 1): api.ErrShape, strings.Replace(example, "jump b1", "jump b2", 1): api.ErrShape, strings.Replace(example, "func t1", "func t0", 1): api.ErrShape, strings.Replace(example, "func t1", "func t2", 1): api.ErrShape, strings.Replace(example, "type fn t0", "type fn t2", 1): api.ErrType, strings.Replace(example, "type int", "type array t0 2", 1): api.ErrType,
		example + "block\njump b3\n": api.ErrShape, "type struct\nfunc t0\nblock\nr0 t0 = read\nreturn r9\n": api.ErrType,
	} {
		mustRefuseText(t, s, want)
	}
}

// chance is numbers that come out alike each time.
type chance uint64

func (c *chance) next(below int) int {
	*c = *c*6364136223846793005 + 1442695040888963407
	return int((uint64(*c) >> 33) % uint64(below))
}

// list answers so many numbers below another one.
func (c *chance) list(many, below int) []int {
	var l []int
	for range many {
		l = append(l, c.next(below))
	}
	return l
}

// ins answers an instruction among five types, so many functions, blocks and registers.
func (c *chance) ins(funcs, blocks, regs int) api.Ins {
	x := api.Ins{Op: uint8(1 + c.next(22)), Type: c.next(5)}
	switch x.Op {
	case api.OpInt:
		x.N = int64(c.next(1<<30)-1<<29) * int64(c.next(1<<30)) * 16
	case api.OpFn:
		x.N = int64(c.next(funcs))
	case api.OpAdd, api.OpSub, api.OpMul, api.OpDiv, api.OpLess, api.OpEq, api.OpSame, api.OpElem:
		x.A, x.B = c.next(regs), c.next(regs)
	case api.OpField:
		x.A, x.N = c.next(regs), int64(c.next(8))
	case api.OpLoad:
		x.A = c.next(regs)
	case api.OpFree, api.OpPrint:
		x.Type, x.A = 0, c.next(regs)
	case api.OpStore:
		x.Type, x.A, x.B = 0, c.next(regs), c.next(regs)
	case api.OpCall:
		x.N, x.Args = int64(c.next(funcs)), c.list(c.next(5), regs)
	case api.OpICall:
		x.A, x.Args = c.next(regs), c.list(c.next(5), regs)
	case api.OpPhi:
		many := 1 + c.next(4)
		x.Args, x.From = c.list(many, regs), c.list(many, blocks)
	}
	return x
}

// program answers one whose shape may be.
func (c *chance) program() api.Program {
	p := api.Program{Types: table()}
	for _, k := range c.list(c.next(4), 5) {
		p.Types = append(p.Types, []api.Type{{Kind: api.KInt}, {Kind: api.KPtr, Elem: 3}, {Kind: api.KFn, Parts: []int{2}}, {Kind: api.KStruct, Parts: c.list(1+c.next(3), 5)}, {Kind: api.KArray, Elem: c.next(5), Many: 1 + c.next(16)}}[k])
	}
	funcs := 1 + c.next(3)
	for range funcs {
		f := api.Func{Sig: 2 + c.next(2)}
		sizes := c.list(1+c.next(4), 6)
		sizes[0]++
		regs := len(p.Types[f.Sig].Parts)
		for _, many := range sizes {
			regs += many
		}
		for _, many := range sizes {
			b := api.Block{End: api.End{Kind: api.EndJump, To: c.next(len(sizes))}}
			switch c.next(3) {
			case 0:
				b.End = api.End{Kind: api.EndReturn, A: c.next(regs)}
			case 1:
				b.End = api.End{Kind: api.EndBranch, A: c.next(regs), To: c.next(len(sizes)), Else: c.next(len(sizes))}
			}
			for range many {
				b.Ins = append(b.Ins, c.ins(funcs, len(sizes), regs))
			}
			f.Blocks = append(f.Blocks, b)
		}
		p.Funcs = append(p.Funcs, f)
	}
	return p
}

// P8.3: what is written is read as that program; its own text is its own text's own text; and no two programs have one text. By the thousand.
func TestMixed(t *testing.T) {
	c, seen := chance(5), map[string]api.Program{}
	for range 3000 {
		p := c.program()
		mustDiffer(t, seen, p)
	}
	if len(seen) < 2900 {
		t.Errorf("programs are too much alike: %d of 3000", len(seen))
	}
}

// mustDiffer holds p's own text against those of other programs, and puts it to them.
func mustDiffer(t *testing.T, seen map[string]api.Program, p api.Program) {
	t.Helper()
	s := mustOwn(t, p)
	if q, is := seen[s]; is && !shape.Same(p, q) {
		t.Errorf("%+v and %+v have one text: %s", p, q, short(s))
	}
	seen[s] = p
}

// full answers a program with each instruction, type and end in it, and with more than one of each list.
func full() api.Program {
	p := around(api.End{Kind: api.EndBranch, A: 3, To: 2, Else: 1},
		api.Ins{Op: api.OpInt, N: -12}, api.Ins{Op: api.OpNull, Type: 1}, api.Ins{Op: api.OpFn, Type: 2, N: 1}, api.Ins{Op: api.OpAdd, A: 1, B: 2}, api.Ins{Op: api.OpSub, A: 1, B: 2}, api.Ins{Op: api.OpMul, A: 1, B: 2}, api.Ins{Op: api.OpDiv, A: 1, B: 2}, api.Ins{Op: api.OpLess, A: 1, B: 2}, api.Ins{Op: api.OpEq, A: 1, B: 2}, api.Ins{Op: api.OpSame, A: 1, B: 2}, api.Ins{Op: api.OpNew, Type: 1}, api.Ins{Op: api.OpLocal, Type: 1}, api.Ins{Op: api.OpFree, A: 1}, api.Ins{Op: api.OpField, Type: 1, A: 2, N: 7}, api.Ins{Op: api.OpElem, Type: 1, A: 1, B: 2}, api.Ins{Op: api.OpLoad, A: 1}, api.Ins{Op: api.OpStore, A: 1, B: 2},
		api.Ins{Op: api.OpCall, N: 1, Args: []int{0, 1}}, api.Ins{Op: api.OpICall, A: 2, Args: []int{0, 1}}, api.Ins{Op: api.OpRead}, api.Ins{Op: api.OpPrint, A: 3}, api.Ins{Op: api.OpPhi, Args: []int{2, 1, 0}, From: []int{1, 0, 2}})
	p.Types = append(p.Types, api.Type{Kind: api.KArray, Elem: 1, Many: 3})
	return p
}

// turns answers p's twins with one thing turned each: a number of it is another one, or a list has one more, one less, or two turned round.
func turns(p api.Program) []api.Program {
	var all []api.Program
	for at := 0; ; at++ {
		for how := 0; ; how++ {
			q, left := shape.Twin(p), at
			done, more := turn(reflect.ValueOf(&q).Elem(), &left, how)
			if !done {
				return all
			}
			if !more {
				break
			}
			all = append(all, q)
		}
	}
}

// turn turns the thing of v that so many are ahead of; done tells whether there is one, more whether it can be turned in that way.
func turn(v reflect.Value, left *int, how int) (done, more bool) {
	switch v.Kind() {
	case reflect.Struct:
		for k := range v.NumField() {
			if done, more := turn(v.Field(k), left, how); done {
				return done, more
			}
		}
		return false, false
	case reflect.Slice:
		if *left == 0 {
			return true, turnList(v, how)
		}
		*left--
		for k := range v.Len() {
			if done, more := turn(v.Index(k), left, how); done {
				return done, more
			}
		}
		return false, false
	}
	if *left > 0 {
		*left--
		return false, false
	}
	return true, turnNumber(v, how)
}

// turnList turns a list, if there is that way.
func turnList(v reflect.Value, how int) bool {
	many := v.Len()
	switch {
	case how == 0:
		v.Set(reflect.Append(v, reflect.Zero(v.Type().Elem())))
	case how <= many: // without one
		v.Set(reflect.AppendSlice(v.Slice(0, how-1), v.Slice(how, many)))
	case how < 2*many: // with two turned round
		reflect.Swapper(v.Interface())(how-many-1, how-many)
	default:
		return false
	}
	return true
}

// turnNumber turns a number, if there is that way.
func turnNumber(v reflect.Value, how int) bool {
	numbers := []int64{-1, 0, 1, 2, 3, 4, 5, 6, 7, 8, 9, 10, 16, 17, 22, 23, 24, 25, 26, 27, 127, 128, 255, 256, 999, 1000, math.MaxInt64, math.MinInt64}
	if how >= len(numbers) {
		return false
	}
	if v.CanInt() {
		v.SetInt(numbers[how])
	} else {
		v.SetUint(uint64(numbers[how]) % 256)
	}
	return true
}

// P8.1, P8.3, P1: a program with one thing turned has another text, or shape's error.
func TestTurned(t *testing.T) {
	told := map[api.Errno]int{}
	for _, p := range []api.Program{full(), exampleProgram()} {
		seen := map[string]api.Program{}
		mustDiffer(t, seen, p)
		own := mustOwn(t, p)
		for _, q := range turns(p) {
			e := shape.Check(q)
			told[e]++
			if e != api.OK {
				mustRefuse(t, q, e)
				continue
			}
			mustDiffer(t, seen, q)
			if s := mustOwn(t, q); (s == own) != shape.Same(p, q) {
				t.Errorf("%+v has the text %s", q, short(s))
			}
		}
	}
	if told[api.OK] < 500 || told[api.ErrType] < 200 || told[api.ErrShape] < 2000 {
		t.Errorf("programs are too much alike: %v", told)
	}
}

// P8.1: lists that are empty, and lists that are nil, are the same.
func TestNil(t *testing.T) {
	p := exampleProgram()
	for k := range p.Types {
		p.Types[k].Parts = []int{}
	}
	for b := range p.Funcs[0].Blocks {
		for k := range p.Funcs[0].Blocks[b].Ins {
			x := &p.Funcs[0].Blocks[b].Ins[k]
			x.Args, x.From = []int{}, []int{}
		}
	}
	mustWrite(t, p, example)
	p.Funcs[0].Blocks = append(p.Funcs[0].Blocks, api.Block{Ins: []api.Ins{}, End: api.End{Kind: api.EndJump}})
	mustWrite(t, p, example+"block\njump b0\n")
	mustRefuse(t, api.Program{Types: []api.Type{}, Funcs: []api.Func{}}, api.ErrShape)
}

// roomy answers a list with room behind it, in which a number stands, or what is told by one.
func roomy[T any](l []T, behind T) []T {
	return append(slices.Clone(l), behind)[:len(l)]
}

// P8.2: what is handed in is only read, also behind the ends of its lists.
func TestOnlyRead(t *testing.T) {
	odd := full()
	odd.Funcs[1].Sig = 9
	for _, p := range []api.Program{full(), exampleProgram(), sized(16385), odd, withType(api.Type{})} {
		p.Types = roomy(p.Types, api.Type{Kind: 77})
		for f := range p.Funcs {
			blocks := roomy(p.Funcs[f].Blocks, api.Block{End: api.End{Kind: 77}})
			for b := range blocks {
				blocks[b].Ins = roomy(blocks[b].Ins, api.Ins{Op: 77})
				for k := range blocks[b].Ins {
					x := &blocks[b].Ins[k]
					x.Args, x.From = roomy(x.Args, 77), roomy(x.From, 77)
				}
			}
			p.Funcs[f].Blocks = blocks
		}
		p.Funcs = roomy(p.Funcs, api.Func{Sig: 77})
		held := shape.Twin(p)
		s, e := write.Write(p)
		if again, f := write.Write(p); s != again || e != f {
			t.Errorf("Write(%s) = %s, %d, and then %s, %d", short(fmt.Sprintf("%+v", held)), short(s), e, short(again), f)
		}
		if !reflect.DeepEqual(p, held) {
			t.Errorf("what was handed in, %+v, is %+v", held, p)
		}
		well := p.Types[:len(p.Types)+1][len(p.Types)].Kind == 77 && p.Funcs[:len(p.Funcs)+1][len(p.Funcs)].Sig == 77
		for _, f := range p.Funcs {
			well = well && f.Blocks[:len(f.Blocks)+1][len(f.Blocks)].End.Kind == 77
			for _, b := range f.Blocks {
				well = well && b.Ins[:len(b.Ins)+1][len(b.Ins)].Op == 77
				for _, x := range b.Ins {
					well = well && x.Args[:len(x.Args)+1][len(x.Args)] == 77 && x.From[:len(x.From)+1][len(x.From)] == 77
				}
			}
		}
		if !well {
			t.Errorf("behind the lists of %s something else stands", short(fmt.Sprintf("%+v", held)))
		}
	}
}

// P8.2: what is answered is new memory, also where a text is its program's own.
func TestNew(t *testing.T) {
	for _, s := range []string{example, tableText + "func t2\nblock\nr0 t0 = int 0\nreturn r0\n", example + "# behind"} {
		first, _ := write.Canon(s)
		second, _ := write.Canon(s)
		for _, other := range []string{s, second} {
			begin, at := uintptr(unsafe.Pointer(unsafe.StringData(other))), uintptr(unsafe.Pointer(unsafe.StringData(first)))
			if at < begin+uintptr(len(other)) && begin < at+uintptr(len(first)) {
				t.Errorf("the own text of %s shares memory with another text", s)
			}
		}
	}
	p := exampleProgram()
	first, _ := write.Write(p)
	p.Funcs[0].Blocks[0].Ins[0].N = 6 // what was told stays as it is
	second, _ := write.Write(p)
	if first != example || second != strings.Replace(example, "int 5", "int 6", 1) {
		t.Errorf("%s, and then %s", first, second)
	}
}

// P1: each call ends at all arguments, whatever the bytes, and answers the same again.
func TestCanonBytes(t *testing.T) {
	for n := range 256 {
		b := string([]byte{byte(n)})
		for _, s := range []string{b, b + b, b + example, example + b, strings.Repeat(b, 16384), strings.Repeat(b, 16385), "type " + b, "r0 t0 = " + b, strings.ReplaceAll(example, " ", b), strings.ReplaceAll(example, "\n", b), strings.ReplaceAll(example, "t", b)} {
			_, want := read.Read(s)
			own, e := write.Canon(s)
			if e != want || e != api.OK && own != "" || e == api.OK && own != example {
				t.Errorf("Canon(%q) = %q, %d; want %d", short(s), own, e, want)
			}
			if again, f := write.Canon(s); own != again || e != f {
				t.Errorf("Canon(%q) = %q, %d, and then %q, %d", short(s), own, e, again, f)
			}
		}
	}
	for range 3 {
		mustWrite(t, exampleProgram(), example)
		mustRefuse(t, api.Program{}, api.ErrShape)
		mustCanon(t, example, example)
		mustRefuseText(t, "x", api.ErrText)
	}
}

// P1: programs of lists that are far too long.
func TestHuge(t *testing.T) {
	p := exampleProgram()
	p.Types = make([]api.Type, 1_000_000)
	mustRefuse(t, p, api.ErrMany)
	p = exampleProgram()
	p.Funcs = make([]api.Func, 1_000_000)
	mustRefuse(t, p, api.ErrShape)
	p = exampleProgram()
	p.Funcs[0].Blocks[0].Ins = make([]api.Ins, 1_000_000)
	mustRefuse(t, p, api.ErrShape)
	odd(t, api.Ins{Op: api.OpCall, Args: make([]int, 1_000_000)}, api.Ins{Op: api.OpPhi, Args: make([]int, 1_000_000), From: make([]int, 1_000_000)})
	mustRefuse(t, withType(api.Type{Kind: api.KStruct, Parts: make([]int, 1_000_000)}), api.ErrType)
	mustRefuseText(t, strings.Repeat("type int\n", 1_000_000), api.ErrMany)
}
