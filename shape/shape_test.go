package shape_test

import (
	"math"
	"slices"
	"testing"

	"fescue/api"
	"fescue/shape"
)

const (
	least = math.MinInt
	most  = math.MaxInt
)

// The types of most programs here: a function's parameters are told by where its type stands.
const (
	tInt = iota
	tPtr
	tNone // a function of no parameter
	tTwo  // a function of two
	tFour // a function of four
	tStruct
	tMany // how many types there are
)

func table() []api.Type {
	return []api.Type{
		tInt: {Kind: api.KInt}, tPtr: {Kind: api.KPtr, Elem: tStruct}, tNone: {Kind: api.KFn},
		tTwo: {Kind: api.KFn, Parts: []int{tInt, tPtr}}, tFour: {Kind: api.KFn, Elem: tPtr, Parts: []int{tInt, tInt, tPtr, tNone}},
		tStruct: {Kind: api.KStruct, Parts: []int{tInt, tPtr}},
	}
}

func jump(to int) api.End             { return api.End{Kind: api.EndJump, To: to} }
func branch(a, to, other int) api.End { return api.End{Kind: api.EndBranch, A: a, To: to, Else: other} }
func giveBack(a int) api.End          { return api.End{Kind: api.EndReturn, A: a} }

// block answers a block of an end and instructions.
func block(end api.End, l ...api.Ins) api.Block { return api.Block{Ins: l, End: end} }

// ints answers that many instructions.
func ints(many int) []api.Ins {
	return slices.Repeat([]api.Ins{{Op: api.OpInt, N: 7}}, many)
}

// example answers the document's example.
func example() api.Program {
	return api.Program{
		Types: []api.Type{{Kind: api.KInt}, {Kind: api.KFn}},
		Funcs: []api.Func{{Sig: 1, Blocks: []api.Block{
			block(jump(1), api.Ins{Op: api.OpInt, N: 5}),
			block(giveBack(1), api.Ins{Op: api.OpAdd}),
		}}},
	}
}

// around answers a program of 3 functions, the second of which, of 2 parameters and 8 instructions, has x in its third block, as its register 6.
func around(x api.Ins) api.Program {
	return api.Program{Types: table(), Funcs: []api.Func{
		{Sig: tNone, Blocks: []api.Block{block(giveBack(0), ints(1)...)}},
		{Sig: tTwo, Blocks: []api.Block{
			block(branch(0, 1, 3), ints(3)...), block(jump(2)),
			block(jump(0), append(append(ints(1), x), ints(1)...)...), block(giveBack(9), ints(2)...),
		}},
		{Sig: tFour, Blocks: []api.Block{block(giveBack(3))}},
	}}
}

// aroundEnd answers the same, an end instead of the second block's.
func aroundEnd(x api.End) api.Program {
	p := around(api.Ins{Op: api.OpNull})
	p.Funcs[1].Blocks[1].End = x
	return p
}

// What stands around x.
const (
	regsAround, funcsAround, blocksAround = 10, 3, 4
)

// in tells whether n is from 0 to below many.
func in(n, many int) bool { return n >= 0 && n < many }

// all tells whether each of l is from 0 to below many.
func all(l []int, many int) bool {
	for _, n := range l {
		if !in(n, many) {
			return false
		}
	}
	return true
}

// may tells by the document's words whether x has what it should, among so many types, registers, functions and blocks.
func may(x api.Ins, types, regs, funcs, blocks int) bool {
	a, b, n, args, from := x.A == 0, x.B == 0, x.N == 0, len(x.Args) == 0, len(x.From) == 0
	call := x.N >= 0 && x.N < int64(funcs) && len(x.Args) <= 4 && all(x.Args, regs)
	switch x.Op {
	case 13, 21:
		return x.Type == 0 && in(x.A, regs) && b && n && args && from
	case 17:
		return x.Type == 0 && in(x.A, regs) && in(x.B, regs) && n && args && from
	}
	if !in(x.Type, types) {
		return false
	}
	switch x.Op {
	case 1:
		return a && b && args && from
	case 2, 11, 12, 20:
		return a && b && n && args && from
	case 3:
		return call && a && b && args && from
	case 4, 5, 6, 7, 8, 9, 10, 15:
		return in(x.A, regs) && in(x.B, regs) && n && args && from
	case 14:
		return in(x.A, regs) && x.N >= 0 && x.N <= 7 && b && args && from
	case 16:
		return in(x.A, regs) && b && n && args && from
	case 18:
		return call && a && b && from
	case 19:
		return in(x.A, regs) && len(x.Args) <= 4 && all(x.Args, regs) && b && n && from
	case 22:
		return a && b && n && len(x.Args) >= 1 && len(x.Args) <= 16 && len(x.From) == len(x.Args) && all(x.Args, regs) && all(x.From, blocks)
	}
	return false
}

// mayEnd tells the same of an end.
func mayEnd(x api.End, regs, blocks int) bool {
	switch x.Kind {
	case 1:
		return x.A == 0 && in(x.To, blocks) && x.Else == 0
	case 2:
		return in(x.A, regs) && in(x.To, blocks) && in(x.Else, blocks)
	case 3:
		return in(x.A, regs) && x.To == 0 && x.Else == 0
	}
	return false
}

// places answers the block and the place in it of each register of a function, in order; of parameters -1 and the register.
func places(p api.Program, f int) [][2]int {
	var l [][2]int
	for r := range p.Types[p.Funcs[f].Sig].Parts {
		l = append(l, [2]int{-1, r})
	}
	for b, k := range p.Funcs[f].Blocks {
		for at := range k.Ins {
			l = append(l, [2]int{b, at})
		}
	}
	return l
}

// wanted tells by the document's words what Check answers of p, the types of which may be.
func wanted(p api.Program) api.Errno {
	if len(p.Funcs) < 1 || len(p.Funcs) > 8 {
		return api.ErrShape
	}
	for f, fn := range p.Funcs {
		if !in(fn.Sig, len(p.Types)) || p.Types[fn.Sig].Kind != 3 || len(fn.Blocks) < 1 || len(fn.Blocks) > 16 {
			return api.ErrShape
		}
		regs := len(places(p, f))
		if regs-len(p.Types[fn.Sig].Parts) > 128 {
			return api.ErrShape
		}
		for _, b := range fn.Blocks {
			if !mayEnd(b.End, regs, len(fn.Blocks)) {
				return api.ErrShape
			}
			for _, x := range b.Ins {
				if !may(x, len(p.Types), regs, len(p.Funcs), len(fn.Blocks)) {
					return api.ErrShape
				}
			}
		}
	}
	return api.OK
}

// mustCheck holds Check's answer, and the model's, against what is wanted.
func mustCheck(t *testing.T, what string, p api.Program, want api.Errno) {
	t.Helper()
	if e := shape.Check(p); e != want || wanted(p) != want {
		t.Errorf("Check of %s: %d (the model: %d); want %d", what, e, wanted(p), want)
	}
}

// mustMay holds Check's answer of a program around x against whether x may be there.
func mustMay(t *testing.T, x api.Ins, ok bool) {
	t.Helper()
	want := api.ErrShape
	if ok {
		want = api.OK
	}
	if e := shape.Check(around(x)); e != want || may(x, tMany, regsAround, funcsAround, blocksAround) != ok {
		t.Errorf("Check around %+v: %d; want %d", x, e, want)
	}
}

// mustMayEnd does so of an end.
func mustMayEnd(t *testing.T, x api.End, ok bool) {
	t.Helper()
	want := api.ErrShape
	if ok {
		want = api.OK
	}
	if e := shape.Check(aroundEnd(x)); e != want || mayEnd(x, regsAround, blocksAround) != ok {
		t.Errorf("Check around the end %+v: %d; want %d", x, e, want)
	}
}

// each answers each instruction with all that its Op has, none of it 0 where it may be another, and nothing else.
func each() []api.Ins {
	var l []api.Ins
	for _, op := range []uint8{api.OpAdd, api.OpSub, api.OpMul, api.OpDiv, api.OpLess, api.OpEq, api.OpSame, api.OpElem} {
		l = append(l, api.Ins{Op: op, Type: 1, A: 2, B: 3})
	}
	for _, op := range []uint8{api.OpNull, api.OpNew, api.OpLocal, api.OpRead} {
		l = append(l, api.Ins{Op: op, Type: 1})
	}
	return append(l,
		api.Ins{Op: api.OpInt, Type: 1, N: -4},
		api.Ins{Op: api.OpFn, Type: 1, N: 2},
		api.Ins{Op: api.OpFree, A: 2},
		api.Ins{Op: api.OpField, Type: 1, A: 2, N: 4},
		api.Ins{Op: api.OpLoad, Type: 1, A: 2},
		api.Ins{Op: api.OpStore, A: 2, B: 3},
		api.Ins{Op: api.OpCall, Type: 1, N: 2, Args: []int{5, 6}},
		api.Ins{Op: api.OpICall, Type: 1, A: 2, Args: []int{5, 6}},
		api.Ins{Op: api.OpPrint, A: 2},
		api.Ins{Op: api.OpPhi, Type: 1, Args: []int{5, 6}, From: []int{1, 3}},
	)
}

// P6.1: the document's example, and each Op with all that it has and nothing else; with all of that 0, as well.
func TestCheckEachOp(t *testing.T) {
	mustCheck(t, "the example", example(), api.OK)
	met := map[uint8]bool{}
	for _, x := range each() {
		met[x.Op] = true
		mustMay(t, x, true)
		y := api.Ins{Op: x.Op}
		if x.Op == api.OpPhi {
			y.Args, y.From = []int{0}, []int{0}
		}
		mustMay(t, y, true)
	}
	if len(met) != 22 {
		t.Errorf("%d Ops are asked; there are 22", len(met))
	}
	for _, op := range []uint8{0, 23, 24, 128, 254, 255} {
		mustMay(t, api.Ins{Op: op}, false)
		for _, x := range each() {
			x.Op = op
			mustMay(t, x, false)
		}
	}
}

// P6.1: each Op with one thing that it should not have, or one that it has at an edge; with each other Op's things.
func TestCheckOneThing(t *testing.T) {
	numbers := []int{0, 1, 2, 3, 4, 5, 6, 7, 8, 9, 10, 11, 16, -1, -2, least, most}
	lists := [][]int{nil, {}, {0}, {9}, {10}, {-1}, {3}, {4}, {1, 2}, {1, 2, 3}, {0, 10}, {10, 0}, {0, -1}, {0, 4}, {3, 3}, {least}, {most}}
	for _, x := range each() {
		for _, n := range numbers {
			y := x
			y.Type = n
			mustMay(t, y, may(y, tMany, regsAround, funcsAround, blocksAround))
			y = x
			y.A = n
			mustMay(t, y, may(y, tMany, regsAround, funcsAround, blocksAround))
			y = x
			y.B = n
			mustMay(t, y, may(y, tMany, regsAround, funcsAround, blocksAround))
			y = x
			y.N = int64(n)
			mustMay(t, y, may(y, tMany, regsAround, funcsAround, blocksAround))
		}
		for _, l := range lists {
			y := x
			y.Args = l
			mustMay(t, y, may(y, tMany, regsAround, funcsAround, blocksAround))
			y = x
			y.From = l
			mustMay(t, y, may(y, tMany, regsAround, funcsAround, blocksAround))
			for _, m := range lists {
				y.Args = m
				mustMay(t, y, may(y, tMany, regsAround, funcsAround, blocksAround))
			}
		}
		for op := range uint8(25) {
			y := x
			y.Op = op
			mustMay(t, y, may(y, tMany, regsAround, funcsAround, blocksAround))
		}
	}
}

// P6.1: what an instruction has, told outright at the edges: the first, the last, the one behind it, one below 0.
func TestCheckEdges(t *testing.T) {
	for n, ok := range map[int]bool{0: true, 9: true, 10: false, -1: false, least: false, most: false} { // registers
		mustMay(t, api.Ins{Op: api.OpLoad, A: n}, ok)
		mustMay(t, api.Ins{Op: api.OpFree, A: n}, ok)
		mustMay(t, api.Ins{Op: api.OpPrint, A: n}, ok)
		mustMay(t, api.Ins{Op: api.OpField, A: n}, ok)
		mustMay(t, api.Ins{Op: api.OpAdd, A: n}, ok)
		mustMay(t, api.Ins{Op: api.OpAdd, B: n}, ok)
		mustMay(t, api.Ins{Op: api.OpElem, B: n}, ok)
		mustMay(t, api.Ins{Op: api.OpStore, A: n, B: 1}, ok)
		mustMay(t, api.Ins{Op: api.OpStore, A: 1, B: n}, ok)
		mustMay(t, api.Ins{Op: api.OpICall, A: n}, ok)
		mustMay(t, api.Ins{Op: api.OpICall, Args: []int{1, n}}, ok)
		mustMay(t, api.Ins{Op: api.OpCall, Args: []int{n, 1}}, ok)
		mustMay(t, api.Ins{Op: api.OpPhi, Args: []int{1, n}, From: []int{0, 1}}, ok)
	}
	for n, ok := range map[int]bool{0: true, 3: true, 4: false, -1: false, least: false, most: false} { // blocks
		mustMay(t, api.Ins{Op: api.OpPhi, Args: []int{1, 1}, From: []int{0, n}}, ok)
		mustMay(t, api.Ins{Op: api.OpPhi, Args: []int{1, 1}, From: []int{n, 0}}, ok)
	}
	for n, ok := range map[int]bool{0: true, tStruct: true, tMany: false, -1: false, least: false, most: false} { // types
		mustMay(t, api.Ins{Op: api.OpInt, Type: n}, ok)
		mustMay(t, api.Ins{Op: api.OpNew, Type: n}, ok)
		mustMay(t, api.Ins{Op: api.OpPhi, Type: n, Args: []int{0}, From: []int{0}}, ok)
		mustMay(t, api.Ins{Op: api.OpStore, Type: n}, n == 0)
		mustMay(t, api.Ins{Op: api.OpFree, Type: n}, n == 0)
		mustMay(t, api.Ins{Op: api.OpPrint, Type: n}, n == 0)
	}
	for n, ok := range map[int64]bool{0: true, 2: true, 3: false, -1: false, math.MinInt64: false, math.MaxInt64: false, 1 << 32: false} { // functions
		mustMay(t, api.Ins{Op: api.OpFn, N: n}, ok)
		mustMay(t, api.Ins{Op: api.OpCall, N: n, Args: []int{0}}, ok)
	}
	for n, ok := range map[int64]bool{0: true, api.MaxParts - 1: true, api.MaxParts: false, -1: false, math.MinInt64: false, math.MaxInt64: false} {
		mustMay(t, api.Ins{Op: api.OpField, N: n}, ok)
	}
	for _, n := range []int64{0, 1, -1, math.MinInt64, math.MaxInt64} {
		mustMay(t, api.Ins{Op: api.OpInt, N: n}, true)
	}
}

// P6.1: calls of so many registers, phis of so many registers and blocks.
func TestCheckLists(t *testing.T) {
	for many := range 20 {
		l := make([]int, many)
		mustMay(t, api.Ins{Op: api.OpCall, Args: l}, many <= api.MaxParams)
		mustMay(t, api.Ins{Op: api.OpICall, Args: l}, many <= api.MaxParams)
		mustMay(t, api.Ins{Op: api.OpPhi, Args: l, From: l}, many >= 1 && many <= api.MaxBlocks)
		mustMay(t, api.Ins{Op: api.OpPhi, Args: l}, false)
		mustMay(t, api.Ins{Op: api.OpPhi, From: l}, false)
		mustMay(t, api.Ins{Op: api.OpPhi, Args: l, From: make([]int, many+1)}, false)
		mustMay(t, api.Ins{Op: api.OpPhi, Args: make([]int, many+1), From: l}, false)
		mustMay(t, api.Ins{Op: api.OpInt, Args: l}, many == 0)
		mustMay(t, api.Ins{Op: api.OpCall, From: l}, many == 0)
		mustMay(t, api.Ins{Op: api.OpICall, Args: []int{0}, From: l}, many == 0)
	}
	big := make([]int, 100_000)
	mustMay(t, api.Ins{Op: api.OpCall, Args: big}, false)
	mustMay(t, api.Ins{Op: api.OpPhi, Args: big, From: big}, false)
	// A list of 4, or of 16, the last one alone of which is none.
	mustMay(t, api.Ins{Op: api.OpCall, Args: []int{9, 9, 9, 10}}, false)
	mustMay(t, api.Ins{Op: api.OpPhi, Args: append(make([]int, 15), 10), From: make([]int, 16)}, false)
	mustMay(t, api.Ins{Op: api.OpPhi, Args: make([]int, 16), From: append(make([]int, 15), 4)}, false)
	mustMay(t, api.Ins{Op: api.OpPhi, Args: slices.Repeat([]int{9}, 16), From: slices.Repeat([]int{3}, 16)}, true)
}

// P6.1: each Kind of end, and one that is none, with each choice of what it has near the edges.
func TestCheckEnds(t *testing.T) {
	mustMayEnd(t, jump(0), true)
	mustMayEnd(t, jump(3), true)
	mustMayEnd(t, jump(4), false)
	mustMayEnd(t, jump(-1), false)
	mustMayEnd(t, branch(9, 3, 3), true)
	mustMayEnd(t, branch(10, 3, 3), false)
	mustMayEnd(t, branch(0, 4, 3), false)
	mustMayEnd(t, branch(0, 3, 4), false)
	mustMayEnd(t, giveBack(0), true)
	mustMayEnd(t, giveBack(9), true)
	mustMayEnd(t, giveBack(10), false)
	mustMayEnd(t, giveBack(-1), false)
	numbers := []int{0, 1, 3, 4, 9, 10, -1, least, most}
	for _, kind := range []uint8{0, 1, 2, 3, 4, 5, 255} {
		for _, a := range numbers {
			for _, to := range numbers {
				for _, other := range numbers {
					x := api.End{Kind: kind, A: a, To: to, Else: other}
					mustMayEnd(t, x, mayEnd(x, regsAround, blocksAround))
				}
			}
		}
	}
}

// great answers a program of so many functions, blocks in each, and instructions in the last block of each.
func great(funcs, blocks, many int) api.Program {
	p := api.Program{Types: table()}
	for range funcs {
		var l []api.Block
		for range blocks - 1 {
			l = append(l, block(jump(blocks-1)))
		}
		if blocks > 0 {
			l = append(l, block(giveBack(0), ints(many)...))
		}
		p.Funcs = append(p.Funcs, api.Func{Sig: tTwo, Blocks: l})
	}
	return p
}

// P6.1: how many functions, blocks and instructions there are.
func TestCheckMany(t *testing.T) {
	for n, ok := range map[int]api.Errno{0: api.ErrShape, 1: api.OK, 8: api.OK, 9: api.ErrShape, 1000: api.ErrShape} {
		mustCheck(t, "so many functions", great(n, 1, 1), ok)
	}
	for n, ok := range map[int]api.Errno{0: api.ErrShape, 1: api.OK, 16: api.OK, 17: api.ErrShape, 1000: api.ErrShape} {
		mustCheck(t, "so many blocks", great(2, n, 1), ok)
	}
	for n, ok := range map[int]api.Errno{0: api.OK, 1: api.OK, 127: api.OK, 128: api.OK, 129: api.ErrShape, 100_000: api.ErrShape} {
		mustCheck(t, "so many instructions", great(2, 3, n), ok)
	}
	mustCheck(t, "all that may be", great(8, 16, 128), api.OK)
	parted := great(1, 16, 8)
	for b := range 15 {
		parted.Funcs[0].Blocks[b].Ins = ints(8)
	}
	mustCheck(t, "128 instructions in 16 blocks", parted, api.OK)
	parted.Funcs[0].Blocks[0].Ins = ints(9)
	mustCheck(t, "129 instructions in 16 blocks", parted, api.ErrShape)
	last := great(8, 2, 128)
	last.Funcs[7].Blocks[1].End.A = 129
	mustCheck(t, "the last register of the last function", last, api.OK)
	last.Funcs[7].Blocks[1].End.A = 130
	mustCheck(t, "the register behind the last", last, api.ErrShape)
	mustCheck(t, "types alone", api.Program{Types: table()}, api.ErrShape)
	mustCheck(t, "nothing", api.Program{}, api.ErrShape)
	mustCheck(t, "a list of functions, empty", api.Program{Types: table(), Funcs: []api.Func{}}, api.ErrShape)
}

// P6.1: a function's type is a function's type's number.
func TestCheckSig(t *testing.T) {
	for _, k := range []int{tInt, tPtr, tNone, tTwo, tFour, tStruct, tMany, -1, least, most} {
		for f := range 3 {
			p := great(3, 1, 4)
			p.Funcs[f].Sig = k
			want := api.ErrShape
			if k == tNone || k == tTwo || k == tFour {
				want = api.OK
			}
			mustCheck(t, "a Sig", p, want)
		}
	}
	mustCheck(t, "a function without a table", api.Program{Funcs: []api.Func{{Blocks: []api.Block{block(jump(0))}}}}, api.ErrShape)
	// The registers are told by the function's own type: its parameters alone have numbers.
	for k, many := range map[int]int{tNone: 0, tTwo: 2, tFour: 4} {
		for a := range 6 {
			want := api.ErrShape
			if a < many {
				want = api.OK
			}
			mustCheck(t, "an end of a parameter", api.Program{Types: table(), Funcs: []api.Func{{Sig: k, Blocks: []api.Block{block(giveBack(a))}}}}, want)
		}
	}
}

// odd answers tables that may not be, by what types.Check says of each.
func odd() map[api.Errno][]api.Type {
	return map[api.Errno][]api.Type{
		api.ErrMany: append(table(), make([]api.Type, 11)...),
		api.ErrType: append(table(), api.Type{}),
	}
}

// P6.1, P6.2: the types' error is told ahead of this layer's, and that ahead of ErrArg.
func TestErrorsInOrder(t *testing.T) {
	for e, types := range odd() {
		for _, p := range []api.Program{great(2, 2, 2), {}, great(9, 17, 129), around(api.Ins{})} {
			p.Types = types
			for _, f := range []int{0, 1, -1, 9, least, most} {
				for _, r := range []int{0, 1, -1, 200, least, most} {
					mustRefuse(t, p, f, r, r, r, e)
				}
			}
		}
	}
	for _, p := range []api.Program{{}, great(9, 1, 1), great(1, 0, 1), great(1, 1, 129), around(api.Ins{}), aroundEnd(api.End{})} {
		for _, f := range []int{0, 1, -1, 9, least, most} {
			for _, r := range []int{0, 1, -1, 200, least, most} {
				mustRefuse(t, p, f, r, r, r, api.ErrShape)
			}
		}
	}
	for _, p := range []api.Program{example(), great(8, 2, 2), around(api.Ins{Op: api.OpRead})} {
		for _, f := range []int{-1, -2, least, len(p.Funcs), len(p.Funcs) + 1, 8, 9, math.MaxInt32, most} {
			for _, r := range []int{0, 1, -1, 200, least, most} {
				mustRefuse(t, p, f, r, r, r, api.ErrArg)
			}
		}
	}
}

// mustRefuse holds that Regs, Place and Reg answer the error, and nothing beside it.
func mustRefuse(t *testing.T, p api.Program, f, r, b, at int, want api.Errno) {
	t.Helper()
	if n, e := shape.Regs(p, f); n != 0 || e != want {
		t.Errorf("Regs(%d) = %d, %d; want 0, %d", f, n, e, want)
	}
	mustRefusePlace(t, p, f, r, want)
	mustRefuseReg(t, p, f, b, at, want)
}

func mustRefusePlace(t *testing.T, p api.Program, f, r int, want api.Errno) {
	t.Helper()
	if b, at, e := shape.Place(p, f, r); b != 0 || at != 0 || e != want {
		t.Errorf("Place(%d, %d) = %d, %d, %d; want 0, 0, %d", f, r, b, at, e, want)
	}
}

func mustRefuseReg(t *testing.T, p api.Program, f, b, at int, want api.Errno) {
	t.Helper()
	if r, e := shape.Reg(p, f, b, at); r != 0 || e != want {
		t.Errorf("Reg(%d, %d, %d) = %d, %d; want 0, %d", f, b, at, r, e, want)
	}
}

// P6.2: registers by numbers told outright.
func TestRegisters(t *testing.T) {
	if n, e := shape.Regs(example(), 0); n != 2 || e != api.OK {
		t.Errorf("Regs of the example: %d, %d", n, e)
	}
	if b, at, e := shape.Place(example(), 0, 1); b != 1 || at != 0 || e != api.OK {
		t.Errorf("Place of the example's register 1: %d, %d, %d", b, at, e)
	}
	p := around(api.Ins{Op: api.OpRead})
	for f, want := range []int{1, 10, 4} {
		if n, e := shape.Regs(p, f); n != want || e != api.OK {
			t.Errorf("Regs(%d) = %d, %d; want %d", f, n, e, want)
		}
	}
	want := [][2]int{{-1, 0}, {-1, 1}, {0, 0}, {0, 1}, {0, 2}, {2, 0}, {2, 1}, {2, 2}, {3, 0}, {3, 1}}
	for r, at := range want {
		if b, k, e := shape.Place(p, 1, r); b != at[0] || k != at[1] || e != api.OK {
			t.Errorf("Place(1, %d) = %d, %d, %d; want %v", r, b, k, e, at)
		}
		if n, e := shape.Reg(p, 1, at[0], at[1]); at[0] >= 0 && (n != r || e != api.OK) {
			t.Errorf("Reg(1, %d, %d) = %d, %d; want %d", at[0], at[1], n, e, r)
		}
	}
	for r := range 4 {
		if b, at, e := shape.Place(p, 2, r); b != -1 || at != r || e != api.OK {
			t.Errorf("Place(2, %d) = %d, %d, %d; want -1, %d", r, b, at, e, r)
		}
	}
	if b, at, e := shape.Place(p, 0, 0); b != 0 || at != 0 || e != api.OK {
		t.Errorf("Place(0, 0) = %d, %d, %d; want 0, 0", b, at, e)
	}
}

// P6.2: what is no register, and no instruction: below 0, behind the last one, of an empty block, or of none.
func TestNoRegister(t *testing.T) {
	p := around(api.Ins{Op: api.OpPrint})
	for _, r := range []int{-1, -2, 10, 11, 128, math.MaxInt32, least, most} {
		mustRefusePlace(t, p, 1, r, api.ErrArg)
	}
	mustRefusePlace(t, p, 0, 1, api.ErrArg)
	mustRefusePlace(t, p, 2, 4, api.ErrArg)
	for _, b := range []int{-1, -2, 4, 5, 16, least, most} {
		for _, at := range []int{0, 1, -1, least, most} {
			mustRefuseReg(t, p, 1, b, at, api.ErrArg)
		}
	}
	for b, many := range []int{3, 0, 3, 2} {
		for _, at := range []int{-1, -2, many, many + 1, 128, least, most} {
			mustRefuseReg(t, p, 1, b, at, api.ErrArg)
		}
	}
	mustRefuseReg(t, p, 2, 0, 0, api.ErrArg)
}

// usesOf tells by the document's words which registers x reads.
func usesOf(x api.Ins) []int {
	switch x.Op {
	case 4, 5, 6, 7, 8, 9, 10, 15, 17:
		return []int{x.A, x.B}
	case 13, 14, 16, 21:
		return []int{x.A}
	case 18, 22:
		return slices.Clone(x.Args)
	case 19:
		return append([]int{x.A}, x.Args...)
	}
	return nil
}

// P6.3: which Ops answer.
func TestAnswers(t *testing.T) {
	for op := range 256 {
		want := op >= 1 && op <= 22 && op != 13 && op != 17 && op != 21
		if got := shape.Answers(uint8(op)); got != want {
			t.Errorf("Answers(%d) = %v; want %v", op, got, want)
		}
	}
}

// P6.3: the registers that an instruction reads, whatever it has, may it be or not.
func TestUses(t *testing.T) {
	for _, x := range each() {
		if l := shape.Uses(x); !slices.Equal(l, usesOf(x)) {
			t.Errorf("Uses(%+v) = %v; want %v", x, l, usesOf(x))
		}
	}
	long := slices.Repeat([]int{-3, 1000, most}, 40)
	for op := range 256 {
		for _, x := range []api.Ins{
			{}, {A: 4, B: 5}, {A: 5, B: 5, Args: []int{5, 5}, From: []int{5}}, {Type: 9, A: 1, B: 2, N: 3, Args: []int{4, 5, 4}, From: []int{6}},
			{Type: -9, A: least, B: most, N: -1, Args: long, From: long}, {A: -1, B: -2, Args: []int{}}, {N: 7, From: []int{1, 2}},
		} {
			x.Op = uint8(op)
			if l := shape.Uses(x); !slices.Equal(l, usesOf(x)) {
				t.Errorf("Uses(%+v) = %v; want %v", x, l, usesOf(x))
			}
		}
	}
}

// P6.3: those that an end reads.
func TestEnds(t *testing.T) {
	for kind := range 256 {
		for _, a := range []int{0, 1, 9, -1, least, most} {
			for _, to := range []int{0, 3, -3} {
				var want []int
				if kind == 2 || kind == 3 {
					want = []int{a}
				}
				if l := shape.Ends(api.End{Kind: uint8(kind), A: a, To: to, Else: to}); !slices.Equal(l, want) {
					t.Errorf("Ends of kind %d, A %d: %v; want %v", kind, a, l, want)
				}
			}
		}
	}
}

// copied answers p in new memory, item by item.
func copied(p api.Program) api.Program {
	var c api.Program
	for _, y := range p.Types {
		y.Parts = append([]int{}, y.Parts...)
		c.Types = append(c.Types, y)
	}
	for _, f := range p.Funcs {
		g := api.Func{Sig: f.Sig}
		for _, b := range f.Blocks {
			d := api.Block{End: b.End}
			for _, x := range b.Ins {
				x.Args, x.From = append([]int{}, x.Args...), append([]int{}, x.From...)
				d.Ins = append(d.Ins, x)
			}
			g.Blocks = append(g.Blocks, d)
		}
		c.Funcs = append(c.Funcs, g)
	}
	return c
}

// full answers a program, which may not be, with something in each place.
func full() api.Program {
	x := api.Ins{Op: 99, Type: 1, A: 2, B: 3, N: 4, Args: []int{5, 6}, From: []int{7, 8}}
	y := api.Ins{Op: 22, Type: -1, A: -2, B: -3, N: -4, Args: []int{-5}, From: []int{-6}}
	return api.Program{
		Types: []api.Type{{Kind: 99, Elem: 1, Many: 2, Parts: []int{3, 4}}, {Kind: 4, Parts: []int{7}}},
		Funcs: []api.Func{
			{Sig: 9, Blocks: []api.Block{block(api.End{Kind: 9, A: 8, To: 7, Else: 6}, x, y), block(jump(-1), y)}},
			{Sig: -1, Blocks: []api.Block{block(giveBack(1), x)}},
		},
	}
}

// turns answers ways to turn one thing of full, each another.
func turns() []func(p *api.Program) {
	type program = *api.Program
	l := []func(program){
		func(p program) { p.Types[0].Kind++ }, func(p program) { p.Types[0].Elem++ }, func(p program) { p.Types[0].Many++ },
		func(p program) { p.Types[1].Parts[0]++ }, func(p program) { p.Types = p.Types[:1] }, func(p program) { p.Types = nil },
		func(p program) { p.Types[0].Parts = p.Types[0].Parts[:1] }, func(p program) { p.Types = append(p.Types, api.Type{}) },
		func(p program) { p.Funcs = nil }, func(p program) { p.Funcs = p.Funcs[:1] }, func(p program) { p.Funcs = append(p.Funcs, api.Func{}) },
		func(p program) { p.Funcs[0], p.Funcs[1] = p.Funcs[1], p.Funcs[0] },
		func(p program) { p.Funcs[0].Sig++ }, func(p program) { p.Funcs[1].Sig = 9 }, func(p program) { p.Funcs[0].Blocks = nil },
		func(p program) { p.Funcs[0].Blocks = p.Funcs[0].Blocks[:1] }, func(p program) { p.Funcs[1].Blocks = append(p.Funcs[1].Blocks, api.Block{}) },
		func(p program) {
			p.Funcs[0].Blocks[0], p.Funcs[0].Blocks[1] = p.Funcs[0].Blocks[1], p.Funcs[0].Blocks[0]
		},
		func(p program) { p.Funcs[0].Blocks[1].Ins = nil },
	}
	ends := []func(x *api.End){func(x *api.End) { x.Kind++ }, func(x *api.End) { x.A++ }, func(x *api.End) { x.To++ }, func(x *api.End) { x.Else++ }}
	ins := []func(x *api.Ins){
		func(x *api.Ins) { x.Op++ }, func(x *api.Ins) { x.Type++ }, func(x *api.Ins) { x.A++ }, func(x *api.Ins) { x.B++ }, func(x *api.Ins) { x.N++ },
		func(x *api.Ins) { x.Args[0]++ }, func(x *api.Ins) { x.From[0]++ }, func(x *api.Ins) { x.Args = nil }, func(x *api.Ins) { x.From = nil },
		func(x *api.Ins) { x.Args = append(x.Args, 0) }, func(x *api.Ins) { x.From = append(x.From, 0) },
		func(x *api.Ins) { x.Args, x.From = x.From, x.Args },
	}
	for _, at := range [][2]int{{0, 0}, {0, 1}, {1, 0}} {
		for _, turn := range ends {
			l = append(l, func(p program) { turn(&p.Funcs[at[0]].Blocks[at[1]].End) })
		}
		for _, turn := range ins {
			l = append(l, func(p program) { b := p.Funcs[at[0]].Blocks[at[1]].Ins; turn(&b[len(b)-1]) })
		}
	}
	return l
}

// P6.1: any two programs are the same just if all is the same; lists that are empty, and nil, are.
func TestSame(t *testing.T) {
	all := []api.Program{full(), {}, example(), around(api.Ins{}), great(3, 3, 3), great(3, 3, 4)}
	for _, turn := range turns() {
		p := copied(full())
		turn(&p)
		all = append(all, p)
	}
	for i, a := range all {
		for k, b := range all {
			if shape.Same(a, copied(b)) != (i == k) {
				t.Errorf("Same of %d and %d: %v\n%+v\n%+v", i, k, i != k, a, b)
			}
		}
	}
	empty := api.Program{Types: []api.Type{}, Funcs: []api.Func{}}
	if !shape.Same(api.Program{}, empty) || !shape.Same(empty, api.Program{}) {
		t.Error("nothing and empty lists are not the same")
	}
	bare := api.Program{Types: []api.Type{{}}, Funcs: []api.Func{{}, {Blocks: []api.Block{{}, {Ins: []api.Ins{{}}}}}}}
	other := api.Program{Types: []api.Type{{Parts: []int{}}}, Funcs: []api.Func{{Blocks: []api.Block{}}, {Blocks: []api.Block{{Ins: []api.Ins{}}, {Ins: []api.Ins{{Args: []int{}, From: []int{}}}}}}}}
	if !shape.Same(bare, other) || !shape.Same(other, bare) {
		t.Error("lists that are nil and lists that are empty are not the same")
	}
}

// overwrite turns all of p through and through, up to the capacities of its lists.
func overwrite(p api.Program) {
	wipe := func(l []int) {
		for i := range l[:cap(l)] {
			l[:cap(l)][i] = -77
		}
	}
	for k, y := range p.Types {
		wipe(y.Parts)
		p.Types[k] = api.Type{Kind: 77}
	}
	for f, fn := range p.Funcs {
		for b, k := range fn.Blocks {
			for i, x := range k.Ins {
				wipe(x.Args)
				wipe(x.From)
				k.Ins[i] = api.Ins{Op: 77}
			}
			fn.Blocks[b] = api.Block{End: api.End{Kind: 77}}
		}
		p.Funcs[f] = api.Func{Sig: 77}
	}
}

// P6.1, P6.4: a twin is the same, of any program, and shares no memory with it, with another twin, or with itself.
func TestTwin(t *testing.T) {
	shared := []int{1, 2, 3}
	x := api.Ins{Op: api.OpPhi, Args: shared, From: shared}
	tangled := api.Program{
		Types: []api.Type{{Kind: 4, Parts: shared}, {Kind: 4, Parts: shared[:2]}},
		Funcs: []api.Func{{Blocks: []api.Block{block(jump(0), x, x), block(jump(0), x)}}},
	}
	tangled.Funcs = append(tangled.Funcs, tangled.Funcs[0])
	tangled.Funcs[0].Blocks[1].Ins = tangled.Funcs[0].Blocks[0].Ins
	for _, p := range []api.Program{{}, full(), example(), tangled, around(each()[0]), great(9, 17, 129), great(1, 0, 0)} {
		held, twin, again := copied(p), shape.Twin(p), shape.Twin(p)
		if !shape.Same(twin, held) || !shape.Same(held, twin) {
			t.Fatalf("a twin of %+v is %+v", held, twin)
		}
		overwrite(twin)
		if !shape.Same(p, held) || !shape.Same(again, held) {
			t.Errorf("a twin of %+v shares memory", held)
		}
	}
	twin := shape.Twin(tangled)
	twin.Funcs[0].Blocks[0].Ins[0].Args[0] = 9
	twin.Types[0].Parts[1] = 9
	want := copied(tangled)
	want.Funcs[0].Blocks[0].Ins[0].Args[0] = 9
	want.Types[0].Parts[1] = 9
	if !shape.Same(twin, want) {
		t.Error("two lists of a twin share memory")
	}
}

// P6.4: the registers that are read are new memory.
func TestUsesAreNew(t *testing.T) {
	for _, x := range each() {
		x.Args = slices.Grow(slices.Clone(x.Args), 4)
		held := slices.Clone(x.Args)
		first, second := shape.Uses(x), shape.Uses(x)
		want := slices.Clone(second)
		for i := range first[:cap(first)] {
			first[:cap(first)][i] = -77
		}
		if !slices.Equal(x.Args, held) || !slices.Equal(second, want) || !slices.Equal(shape.Uses(x), want) || slices.Contains(x.Args[:cap(x.Args)], -77) {
			t.Errorf("the uses of %+v share memory", x)
		}
	}
	first, second := shape.Ends(giveBack(1)), shape.Ends(giveBack(1))
	first[0] = -77
	if second[0] != 1 || shape.Ends(giveBack(1))[0] != 1 {
		t.Error("the registers of ends share memory")
	}
}

// room answers l with room behind it that holds a mark, and all of it.
func room[T any](l []T, mark T) (own, whole []T) {
	whole = append(slices.Clone(l), mark, mark, mark)
	return whole[:len(l)], whole
}

// P6.4: what is handed in is only read, also behind its end.
func TestOnlyRead(t *testing.T) {
	for _, p := range []api.Program{example(), full(), around(each()[21]), great(9, 1, 1), great(2, 3, 4)} {
		held := copied(p)
		p = copied(p)
		var wholes [][]int
		var blocks [][]api.Block
		var ins [][]api.Ins
		var fns []api.Func
		for f := range p.Funcs {
			for b := range p.Funcs[f].Blocks {
				k := &p.Funcs[f].Blocks[b]
				for i := range k.Ins {
					var args, from []int
					k.Ins[i].Args, args = room(k.Ins[i].Args, -5)
					k.Ins[i].From, from = room(k.Ins[i].From, -5)
					wholes = append(wholes, args, from)
				}
				var whole []api.Ins
				k.Ins, whole = room(k.Ins, api.Ins{Op: 55})
				ins = append(ins, whole)
			}
			var whole []api.Block
			p.Funcs[f].Blocks, whole = room(p.Funcs[f].Blocks, api.Block{End: api.End{Kind: 55}})
			blocks = append(blocks, whole)
		}
		p.Funcs, fns = room(p.Funcs, api.Func{Sig: 55})
		askAll(p)
		clean := shape.Same(p, held) && fns[len(fns)-1].Sig == 55 && fns[len(fns)-3].Sig == 55
		for _, l := range wholes {
			clean = clean && l[len(l)-1] == -5 && l[len(l)-2] == -5 && l[len(l)-3] == -5
		}
		for _, l := range ins {
			clean = clean && l[len(l)-1].Op == 55 && l[len(l)-3].Op == 55
		}
		for _, l := range blocks {
			clean = clean && l[len(l)-1].End.Kind == 55 && l[len(l)-3].End.Kind == 55
		}
		if !clean {
			t.Errorf("what was handed in is not as it was: %+v", held)
		}
	}
}

// askAll asks everything of p.
func askAll(p api.Program) {
	shape.Check(p)
	shape.Same(p, p)
	shape.Same(p, example())
	shape.Twin(p)
	for f := -1; f <= len(p.Funcs); f++ {
		shape.Regs(p, f)
		for n := -1; n < 12; n++ {
			shape.Place(p, f, n)
			for at := -1; at < 5; at++ {
				shape.Reg(p, f, n, at)
			}
		}
	}
	for _, f := range p.Funcs {
		for _, b := range f.Blocks {
			shape.Ends(b.End)
			for _, x := range b.Ins {
				shape.Uses(x)
			}
		}
	}
}

// mixed answers programs by the thousand, that come out alike each time: in the most, all have what they should.
func mixed() []api.Program {
	state := uint64(6)
	next := func(below int) int {
		state = state*6364136223846793005 + 1442695040888963407
		return int((state >> 33) % uint64(below))
	}
	near := func(many int) int { // seldom one that is not there
		if next(250) == 0 {
			return []int{-1, many, many + 3}[next(3)]
		}
		return next(max(many, 1))
	}
	list := func(many, below int) []int {
		var l []int
		for range many {
			l = append(l, near(below))
		}
		return l
	}
	templates := each()
	var all []api.Program
	for range 3000 {
		p := api.Program{Types: table()}
		funcs := 1 + next(3)
		for range funcs {
			fn := api.Func{Sig: tNone + next(3)}
			blocks, regs := 1+next(4), len(p.Types[fn.Sig].Parts)
			sizes := list(blocks, 4)
			for b := range sizes {
				sizes[b] = max(sizes[b], 0)
				regs += sizes[b]
			}
			for _, size := range sizes {
				var b api.Block
				for range size {
					x := templates[next(len(templates))]
					if x.Type != 0 {
						x.Type = near(tMany)
					}
					if x.A != 0 {
						x.A = near(regs)
					}
					if x.B != 0 {
						x.B = near(regs)
					}
					if x.Op == api.OpCall || x.Op == api.OpFn {
						x.N = int64(near(funcs))
					}
					if x.Op == api.OpCall || x.Op == api.OpICall {
						x.Args = list(next(5), regs)
					}
					if x.Op == api.OpPhi {
						many := 1 + next(4)
						x.Args, x.From = list(many, regs), list(many, blocks)
					}
					b.Ins = append(b.Ins, x)
				}
				b.End = []api.End{jump(near(blocks)), branch(near(regs), near(blocks), near(blocks)), giveBack(near(regs))}[next(3)]
				fn.Blocks = append(fn.Blocks, b)
			}
			p.Funcs = append(p.Funcs, fn)
		}
		all = append(all, p)
	}
	return all
}

// P6.1, P6.2, P6.5: programs of all sorts: what Check answers; registers go on from block to block; Place and Reg go there and back.
func TestMixed(t *testing.T) {
	told := map[api.Errno]int{}
	for _, p := range mixed() {
		want := wanted(p)
		told[want]++
		if e := shape.Check(p); e != want {
			t.Fatalf("Check of %+v: %d; want %d", p, e, want)
		}
		if want == api.OK {
			laws(t, p)
		}
	}
	if told[api.OK] < 1000 || told[api.ErrShape] < 300 {
		t.Errorf("programs are too much alike: %v", told)
	}
	for _, p := range []api.Program{example(), around(api.Ins{Op: api.OpFree}), great(8, 16, 128), great(1, 16, 0)} {
		laws(t, p)
	}
}

// laws holds P6.2 and P6.5 of a program that may be.
func laws(t *testing.T, p api.Program) {
	t.Helper()
	for f, fn := range p.Funcs {
		want := places(p, f)
		if n, e := shape.Regs(p, f); n != len(want) || e != api.OK {
			t.Fatalf("Regs(%+v, %d) = %d, %d; want %d", p, f, n, e, len(want))
		}
		for r, at := range want {
			if b, k, e := shape.Place(p, f, r); b != at[0] || k != at[1] || e != api.OK {
				t.Fatalf("Place(%+v, %d, %d) = %d, %d, %d; want %v", p, f, r, b, k, e, at)
			}
		}
		mustRefusePlace(t, p, f, len(want), api.ErrArg)
		next := len(p.Types[fn.Sig].Parts)
		for b := range fn.Blocks {
			for at := range fn.Blocks[b].Ins {
				r, e := shape.Reg(p, f, b, at)
				back, there, d := shape.Place(p, f, r)
				if r != next || e != api.OK || back != b || there != at || d != api.OK {
					t.Fatalf("Reg(%+v, %d, %d, %d) = %d, %d; want %d; and back %d, %d", p, f, b, at, r, e, next, back, there)
				}
				next++
			}
			mustRefuseReg(t, p, f, b, len(fn.Blocks[b].Ins), api.ErrArg)
		}
	}
}

// P1: a call answers the same again, whatever was asked between.
func TestAgain(t *testing.T) {
	for range 3 {
		for _, p := range []api.Program{full(), {}, great(9, 9, 9)} {
			askAll(p)
		}
		n, e := shape.Regs(example(), 0)
		b, at, d := shape.Place(example(), 0, 1)
		r, c := shape.Reg(example(), 0, 1, 0)
		if n != 2 || b != 1 || at != 0 || r != 1 || e != api.OK || d != api.OK || c != api.OK {
			t.Fatalf("the example: %d, %d; %d, %d, %d; %d, %d", n, e, b, at, d, r, c)
		}
	}
}
