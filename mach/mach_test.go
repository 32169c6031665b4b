package mach_test

import (
	"math"
	"reflect"
	"slices"
	"testing"

	"fescue/api"
	"fescue/mach"
	"fescue/sound"
)

func number(n int64) api.Val { return api.Val{Kind: api.ValInt, N: n} }

func function(n int64) api.Val { return api.Val{Kind: api.ValFn, N: n} }

func pointer(block, at int) api.Val { return api.Val{Kind: api.ValPtr, Block: block, At: at} }

func null() api.Val { return api.Val{Kind: api.ValPtr} }

// unset is what a register has that is not set.
func unset() api.Val { return api.Val{} }

// strange are values that may not be.
func strange() []api.Val {
	return []api.Val{
		{}, {N: 1}, {Block: 1}, {Kind: 4}, {Kind: 255, N: 3},
		{Kind: api.ValInt, Block: 1}, {Kind: api.ValInt, At: 1}, {Kind: api.ValInt, N: 2, At: -1},
		{Kind: api.ValPtr, N: 1}, {Kind: api.ValPtr, At: 1}, {Kind: api.ValPtr, Block: -1}, {Kind: api.ValPtr, Block: 1, At: -1},
		{Kind: api.ValFn, N: -1}, {Kind: api.ValFn, N: 9}, {Kind: api.ValFn, N: 1, Block: 1}, {Kind: api.ValFn, At: 1},
	}
}

// ordinary are values that may be; none of a pointer's blocks need be there.
func ordinary() []api.Val {
	return []api.Val{
		number(0), number(7), number(math.MinInt64), number(math.MaxInt64),
		null(), pointer(1, 0), pointer(2, 5), pointer(math.MaxInt, math.MaxInt),
		function(0), function(1), function(api.MaxFuncs),
	}
}

func integer(n int64) api.Ins { return api.Ins{Op: api.OpInt, N: n} }

func jump(to int) api.End { return api.End{Kind: api.EndJump, To: to} }

func branch(a, to, other int) api.End {
	return api.End{Kind: api.EndBranch, A: a, To: to, Else: other}
}

func back(a int) api.End { return api.End{Kind: api.EndReturn, A: a} }

func block(end api.End, l ...api.Ins) api.Block { return api.Block{Ins: l, End: end} }

// phi is one of int, whose registers come from the blocks in turn.
func phi(from []int, args ...int) api.Ins {
	return api.Ins{Op: api.OpPhi, From: from, Args: args}
}

// chapter is the program of chapter 6.
func chapter() api.Program {
	return api.Program{Types: []api.Type{{Kind: api.KInt}, {Kind: api.KFn}}, Funcs: []api.Func{{Sig: 1, Blocks: []api.Block{
		block(jump(1), integer(5)),
		block(back(1), api.Ins{Op: api.OpAdd}),
	}}}}
}

// idle is a program whose function has no registers.
func idle() api.Program {
	p := chapter()
	p.Funcs[0].Blocks = []api.Block{block(jump(1)), block(jump(1))}
	return p
}

// rounds is a program with phis: block 1 goes round, and what r3 to r5 have is handed round with it; block 2 is one of four that go to block 3.
func rounds() api.Program {
	p := chapter()
	two := []int{0, 1}
	p.Funcs[0].Blocks = []api.Block{
		block(jump(1), integer(10), integer(20), integer(30)),
		block(branch(7, 1, 2), phi(two, 0, 4), phi(two, 1, 5), phi(two, 2, 3), phi(two, 1, 6), integer(1)),
		block(branch(0, 3, 4), phi([]int{1}, 4)),
		block(back(9), phi([]int{2, 4, 5}, 8, 3, 6), integer(0), integer(0)),
		block(branch(0, 3, 5)),
		block(branch(0, 3, 6), integer(2)),
		block(back(0), phi([]int{5}, 12)),
	}
	return p
}

// family is a program of four functions, with nought to four parameters: int, a pointer, a function, int.
func family() api.Program {
	t := []api.Type{
		{Kind: api.KInt},
		{Kind: api.KPtr},
		{Kind: api.KFn},
		{Kind: api.KFn, Parts: []int{0, 1, 2, 0}},
		{Kind: api.KFn, Elem: 1, Parts: []int{1}},
	}
	return api.Program{Types: t, Funcs: []api.Func{
		{Sig: 2, Blocks: []api.Block{block(jump(1), integer(1), integer(2)), block(back(0), integer(3))}},
		{Sig: 3, Blocks: []api.Block{
			block(branch(3, 1, 2)),
			block(branch(0, 1, 2), phi([]int{0, 1}, 3, 0), phi([]int{0, 1}, 0, 4)),
			block(back(6), phi([]int{0, 1}, 0, 5)),
		}},
		{Sig: 4, Blocks: []api.Block{block(back(0))}},
		{Sig: 2, Blocks: []api.Block{block(back(0), api.Ins{Op: api.OpRead}, api.Ins{Op: api.OpPrint})}},
	}}
}

// TestPrograms holds the tests' own programs against what mach asks of one.
func TestPrograms(t *testing.T) {
	for k, p := range []api.Program{chapter(), idle(), rounds(), family(), full()} {
		if e := sound.Check(p); e != api.OK {
			t.Errorf("program %d is not well formed: %d", k, e)
		}
	}
}

// full is a program with as many registers as there can be: function 1 has them all.
func full() api.Program {
	p := family()
	l := slices.Repeat([]api.Ins{integer(1)}, api.MaxIns-2)
	p.Funcs[1].Blocks = []api.Block{block(jump(1), l...), block(branch(0, 1, 2), phi([]int{0, 1}, 0, 131), phi([]int{0, 1}, 129, 130)), block(back(131))}
	return p
}

// frame is one at the beginning of its function, with as many registers, none of which is set but these.
func frame(f, many int, regs ...api.Val) api.Frame {
	l := make([]api.Val, many)
	copy(l, regs)
	return api.Frame{Func: f, Regs: l}
}

// newly is a new machine of a program whose function 0 has as many registers.
func newly(many int, in ...int64) api.Mach {
	return api.Mach{Frames: []api.Frame{frame(0, many)}, In: in, State: api.StRun}
}

// piece is a block of memory of a depth that is Alive.
func piece(depth int, cells ...api.Val) api.Blk {
	return api.Blk{Site: depth, Type: 1, Depth: depth, Alive: true, Cells: cells}
}

// over is that block, not Alive any more.
func over(b api.Blk) api.Blk {
	b.Alive = false
	return b
}

// busy is a machine of family, all of whose fields have something: three frames, and blocks of the heap, of each of them, and ones that are over.
func busy() api.Mach {
	one := frame(0, 3, number(1), number(2))
	one.At = 2
	two := frame(1, 7, number(4), pointer(1, 0), function(2), number(5), number(6), number(7))
	two.Block, two.At, two.Into = 1, 2, 1
	three := frame(2, 1, pointer(2, 1))
	three.Into = 4
	return api.Mach{
		Mem: []api.Blk{
			piece(0, number(8), pointer(1, 1)),
			piece(1, pointer(1, 0), pointer(2, 1)),
			piece(2, number(9), function(1)),
			piece(3, pointer(3, 0)),
			over(piece(2, number(3))),
			over(piece(3, pointer(5, 0))),
			over(piece(0, null())),
			piece(3, number(0)),
		},
		Frames: []api.Frame{one, two, three},
		In:     []int64{11, 12, 13},
		Used:   2,
		Events: []api.Event{{Kind: api.EvRead, N: 11}, {Kind: api.EvPrint, N: 4}, {Kind: api.EvRead, N: 12}},
		Steps:  17,
		Heaps:  2,
		State:  api.StRun,
	}
}

// turned is m behind what is done to it, in new memory.
func turned(m api.Mach, by func(m *api.Mach)) api.Mach {
	m = deep(m)
	by(&m)
	return m
}

// with is m, in which the register r of the frame has v.
func with(m api.Mach, at, r int, v api.Val) api.Mach {
	return turned(m, func(m *api.Mach) { m.Frames[at].Regs[r] = v })
}

// deep is m in new memory, each list of which has room behind it, in which something stands; lists without items are nil.
func deep(m api.Mach) api.Mach {
	m.Mem = roomy(m.Mem, api.Blk{Site: -7, Cells: []api.Val{{Kind: 9}}})
	for k := range m.Mem {
		m.Mem[k].Cells = roomy(m.Mem[k].Cells, api.Val{Kind: 9, N: int64(k)})
	}
	m.Frames = roomy(m.Frames, api.Frame{Func: -7, Regs: []api.Val{{Kind: 8}}})
	for k := range m.Frames {
		m.Frames[k].Regs = roomy(m.Frames[k].Regs, api.Val{Kind: 7, N: int64(k)})
	}
	m.In = roomy(m.In, -77)
	m.Events = roomy(m.Events, api.Event{Kind: 9, N: -77})
	return m
}

// roomy is l in new memory, with x behind it.
func roomy[T any](l []T, x T) []T {
	if len(l) == 0 {
		return nil
	}
	return append(append(make([]T, 0, len(l)+1), l...), x)[:len(l)]
}

// wide is m with what stands in the room behind its lists.
func wide(m api.Mach) api.Mach {
	m.Mem = slices.Clone(m.Mem[:cap(m.Mem)])
	for k := range m.Mem {
		m.Mem[k].Cells = m.Mem[k].Cells[:cap(m.Mem[k].Cells)]
	}
	m.Frames = slices.Clone(m.Frames[:cap(m.Frames)])
	for k := range m.Frames {
		m.Frames[k].Regs = m.Frames[k].Regs[:cap(m.Frames[k].Regs)]
	}
	m.In, m.Events = m.In[:cap(m.In)], m.Events[:cap(m.Events)]
	return m
}

// equal tells whether all of both is the same; lists that are empty, and lists that are nil, are.
func equal(a, b api.Mach) bool { return reflect.DeepEqual(deep(a), deep(b)) }

func must(t *testing.T, what string, m api.Mach, e api.Errno, want api.Mach, told api.Errno) {
	t.Helper()
	if !equal(m, want) || e != told {
		t.Errorf("%s tells %d, %+v; want %d, %+v", what, e, m, told, want)
	}
	if e != api.OK && !reflect.DeepEqual(m, api.Mach{}) {
		t.Errorf("%s tells %d, and %+v", what, e, m)
	}
}

func mustBegin(t *testing.T, p api.Program, in []int64, want api.Mach, told api.Errno) {
	t.Helper()
	m, e := mach.Begin(p, in)
	must(t, "Begin", m, e, want, told)
}

func mustReg(t *testing.T, m api.Mach, r int, want api.Val, told api.Errno) {
	t.Helper()
	if v, e := mach.Reg(m, r); v != want || e != told {
		t.Errorf("Reg(%+v, %d) = %+v, %d; want %+v, %d", m, r, v, e, want, told)
	}
}

func mustSet(t *testing.T, m api.Mach, r int, v api.Val, want api.Mach, told api.Errno) {
	t.Helper()
	now, e := mach.Set(m, r, v)
	must(t, "Set", now, e, want, told)
}

func mustEnter(t *testing.T, p api.Program, m api.Mach, block int, want api.Mach, told api.Errno) {
	t.Helper()
	now, e := mach.Enter(p, m, block)
	must(t, "Enter", now, e, want, told)
}

func mustCall(t *testing.T, p api.Program, m api.Mach, f int, args []api.Val, into int, want api.Mach, told api.Errno) {
	t.Helper()
	now, e := mach.Call(p, m, f, args, into)
	must(t, "Call", now, e, want, told)
}

func mustReturn(t *testing.T, m api.Mach, v api.Val, want api.Mach, told api.Errno) {
	t.Helper()
	now, e := mach.Return(m, v)
	must(t, "Return", now, e, want, told)
}

func mustTrap(t *testing.T, m api.Mach, n api.Errno, want api.Mach, told api.Errno) {
	t.Helper()
	now, e := mach.Trap(m, n)
	must(t, "Trap", now, e, want, told)
}

// ended is m, ended by a trap.
func ended(m api.Mach, e api.Errno) api.Mach {
	m.State, m.Trap = api.StTrap, e
	return m
}

// begun is a new machine of p.
func begun(t *testing.T, p api.Program) api.Mach {
	t.Helper()
	m, e := mach.Begin(p, nil)
	if e != api.OK {
		t.Fatalf("Begin tells %d", e)
	}
	return m
}

// P15.2, P15.3: the chapter's examples.
func TestExamples(t *testing.T) {
	p := chapter()
	m := begun(t, p)
	m, e := mach.Set(m, 0, number(5))
	if e != api.OK {
		t.Fatalf("Set tells %d", e)
	}
	if m, e = mach.Enter(p, m, 1); e != api.OK {
		t.Fatalf("Enter tells %d", e)
	}
	mustReg(t, m, 0, number(5), api.OK)
	mustReg(t, m, 1, api.Val{}, api.ErrNone)
	want := api.Mach{State: api.StExit, Exit: 7}
	mustReturn(t, m, number(7), want, api.OK)
}

// P15.1: a new machine is at the beginning of function 0, with nothing set, and has the numbers.
func TestBegin(t *testing.T) {
	mustBegin(t, chapter(), nil, newly(2), api.OK)
	mustBegin(t, chapter(), []int64{}, newly(2), api.OK)
	mustBegin(t, chapter(), []int64{3, -4, math.MinInt64}, newly(2, 3, -4, math.MinInt64), api.OK)
	mustBegin(t, idle(), []int64{0}, newly(0, 0), api.OK)
	mustBegin(t, family(), []int64{0}, newly(3, 0), api.OK)
	mustBegin(t, rounds(), nil, newly(14), api.OK)
	p := chapter()
	p.Funcs[0].Blocks[0].Ins = slices.Repeat([]api.Ins{integer(1)}, api.MaxIns-1)
	p.Funcs[0].Blocks[1].End.A = api.MaxIns - 1
	mustBegin(t, p, nil, newly(api.MaxIns), api.OK)
}

// many are as many numbers.
func many(n int) []int64 { return slices.Repeat([]int64{6}, n) }

// P15.1: 64 numbers may be read, and no more.
func TestBeginMany(t *testing.T) {
	mustBegin(t, chapter(), many(63), newly(2, many(63)...), api.OK)
	mustBegin(t, chapter(), many(64), newly(2, many(64)...), api.OK)
	mustBegin(t, chapter(), many(65), api.Mach{}, api.ErrMany)
	mustBegin(t, chapter(), many(1000), api.Mach{}, api.ErrMany)
}

// P15.1: what keeps a program from being well formed is told ahead of too many numbers.
func TestBeginRefuses(t *testing.T) {
	unformed, lost, odd := chapter(), chapter(), chapter()
	unformed.Funcs[0].Blocks[1].Ins[0] = api.Ins{Op: api.OpAdd, A: 1, B: 1}
	lost.Funcs[0].Blocks[0].End.To = 2
	odd.Types[0].Kind = 0
	round := family()
	round.Funcs[0].Sig = 4
	for _, x := range []struct {
		p    api.Program
		told api.Errno
	}{{unformed, api.ErrForm}, {lost, api.ErrShape}, {odd, api.ErrType}, {round, api.ErrForm}, {api.Program{}, api.ErrShape}} {
		if e := sound.Check(x.p); e != x.told {
			t.Errorf("Check tells %d, want %d", e, x.told)
		}
		mustBegin(t, x.p, nil, api.Mach{}, x.told)
		mustBegin(t, x.p, many(64), api.Mach{}, x.told)
		mustBegin(t, x.p, many(65), api.Mach{}, x.told)
	}
}

// changes are all single things by which one machine may be another one.
func changes() []func(m *api.Mach) {
	return []func(m *api.Mach){
		func(m *api.Mach) { m.Mem = m.Mem[:len(m.Mem)-1] },
		func(m *api.Mach) { m.Mem[0].Site++ },
		func(m *api.Mach) { m.Mem[1].Type++ },
		func(m *api.Mach) { m.Mem[2].Depth++ },
		func(m *api.Mach) { m.Mem[3].Alive = false },
		func(m *api.Mach) { m.Mem[7].Cells[0].N++ },
		func(m *api.Mach) { m.Mem[0].Cells = m.Mem[0].Cells[:1] },
		func(m *api.Mach) { m.Frames = m.Frames[:2] },
		func(m *api.Mach) { m.Frames = m.Frames[1:] },
		func(m *api.Mach) { m.Frames = nil },
		func(m *api.Mach) { m.Frames[0].Func++ },
		func(m *api.Mach) { m.Frames[1].Block++ },
		func(m *api.Mach) { m.Frames[2].At++ },
		func(m *api.Mach) { m.Frames[1].Into++ },
		func(m *api.Mach) { m.Frames[0].Regs[1].N++ },
		func(m *api.Mach) { m.Frames[0].Regs[2].Kind = api.ValInt },
		func(m *api.Mach) { m.Frames[1].Regs[1].Block++ },
		func(m *api.Mach) { m.Frames[2].Regs[0].At++ },
		func(m *api.Mach) { m.Frames[2].Regs = nil },
		func(m *api.Mach) { m.Frames[0].Regs = m.Frames[0].Regs[:2] },
		func(m *api.Mach) { m.In[2]++ },
		func(m *api.Mach) { m.In = m.In[:2] },
		func(m *api.Mach) { m.Used++ },
		func(m *api.Mach) { m.Events[0].Kind = api.EvPrint },
		func(m *api.Mach) { m.Events[2].N++ },
		func(m *api.Mach) { m.Events = m.Events[:2] },
		func(m *api.Mach) { m.Steps++ },
		func(m *api.Mach) { m.Heaps++ },
		func(m *api.Mach) { m.State++ },
		func(m *api.Mach) { m.Trap++ },
		func(m *api.Mach) { m.Exit++ },
	}
}

// P15.1: machines are the same just if all of them is; lists that are empty, and nil, are.
func TestSame(t *testing.T) {
	var l []api.Mach
	for _, by := range append(changes(), func(*api.Mach) {}) {
		l = append(l, turned(busy(), by))
	}
	l = append(l, api.Mach{}, newly(2), newly(3), newly(2, 1))
	for i, a := range l {
		for j, b := range l {
			if mach.Same(a, b) != (i == j) {
				t.Errorf("Same(%+v, %+v) = %t", a, b, i != j)
			}
		}
		if !mach.Same(a, deep(a)) || !mach.Same(deep(a), a) {
			t.Errorf("%+v is not the same as itself in new memory", a)
		}
	}
	empty := api.Mach{Mem: []api.Blk{}, Frames: []api.Frame{}, In: []int64{}, Events: []api.Event{}}
	if !mach.Same(empty, api.Mach{}) || !mach.Same(api.Mach{}, empty) {
		t.Error("lists that are empty, and lists that are nil, are not the same")
	}
	a, b := api.Mach{Frames: []api.Frame{{Regs: []api.Val{}}}}, api.Mach{Frames: []api.Frame{{}}}
	if !mach.Same(a, b) || !mach.Same(b, a) {
		t.Error("registers that are empty, and nil, are not the same")
	}
}

// odd is a machine that is of no program.
func odd() api.Mach {
	return api.Mach{
		Mem:    []api.Blk{{Site: -1, Depth: -4, Cells: []api.Val{{Kind: 77, N: 5, Block: -3, At: 9}}}, {}, {Cells: []api.Val{}}},
		Frames: []api.Frame{{Func: -1, Block: -2, At: -3, Into: -4, Regs: []api.Val{}}, {}, {Regs: []api.Val{{Kind: 99, N: 1, Block: 2, At: 3}}}, {}},
		In:     many(100),
		Used:   -5,
		Events: []api.Event{{Kind: 44, N: 2}},
		Steps:  -1,
		Heaps:  -2,
		State:  200,
		Trap:   -9,
		Exit:   -10,
	}
}

// P15.1: a twin is the same, of any machine; what is nil stays so.
func TestTwin(t *testing.T) {
	l := []api.Mach{{}, busy(), newly(2), newly(0), odd(), ended(busy(), 7), {State: api.StExit, Exit: 4}}
	for _, by := range changes() {
		l = append(l, turned(busy(), by))
	}
	for _, m := range l {
		if now := mach.Twin(m); !reflect.DeepEqual(now, m) {
			t.Errorf("Twin(%+v) = %+v", m, now)
		}
	}
}

// share tells whether both lists have memory in common, with the room behind them.
func share[T any](a, b []T) bool {
	a, b = a[:cap(a)], b[:cap(b)]
	if len(a) == 0 || len(b) == 0 {
		return false
	}
	for k := range a {
		if &a[k] == &b[0] {
			return true
		}
	}
	for k := range b {
		if &b[k] == &a[0] {
			return true
		}
	}
	return false
}

// values are all lists of values of m.
func values(m api.Mach) [][]api.Val {
	var l [][]api.Val
	for _, b := range m.Mem {
		l = append(l, b.Cells)
	}
	for _, x := range m.Frames {
		l = append(l, x.Regs)
	}
	return l
}

// mustBeNew asks that now has no memory of m, and no two lists of it share any.
func mustBeNew(t *testing.T, what string, m, now api.Mach) {
	t.Helper()
	if share(m.Mem, now.Mem) || share(m.Frames, now.Frames) || share(m.In, now.In) || share(m.Events, now.Events) {
		t.Errorf("%s: what is answered is not in new memory", what)
	}
	own := values(now)
	for k, l := range own {
		for _, x := range append(values(m), own[k+1:]...) {
			if share(l, x) {
				t.Errorf("%s: values of what is answered are not in new memory", what)
			}
		}
	}
}

// P15.4: a twin is in new memory, also one of lists that have room.
func TestTwinIsNew(t *testing.T) {
	for _, m := range []api.Mach{busy(), deep(busy()), odd(), deep(odd()), newly(4, 1)} {
		was := deep(m)
		now := mach.Twin(m)
		mustBeNew(t, "Twin", m, now)
		for k := range now.Frames {
			now.Frames[k].Regs = append(now.Frames[k].Regs, number(1), number(2))
			now.Frames[k].Regs[0] = number(99)
		}
		if !equal(m, was) {
			t.Errorf("what is done to a twin is done to %+v", was)
		}
	}
	// What has no items may have room: a twin is not to grow into it.
	room := []api.Val{number(1), number(2)}
	now := mach.Twin(api.Mach{Frames: []api.Frame{{Regs: room[:0]}}})
	_ = append(now.Frames[0].Regs, number(9))
	if room[0] != number(1) {
		t.Error("a twin grew into what was handed in")
	}
}

// P15.1: of what does not run all tell ErrDone, ahead of all else.
func TestDone(t *testing.T) {
	p := family()
	for state := range 256 {
		if state == int(api.StRun) {
			continue
		}
		for _, m := range []api.Mach{busy(), newly(2), {}} {
			m.State = uint8(state)
			for _, n := range []int{0, -1, 9} {
				mustReg(t, m, n, api.Val{}, api.ErrDone)
				mustSet(t, m, n, number(1), api.Mach{}, api.ErrDone)
				mustSet(t, m, n, api.Val{}, api.Mach{}, api.ErrDone)
				mustEnter(t, p, m, n, api.Mach{}, api.ErrDone)
				mustCall(t, p, m, n, nil, 0, api.Mach{}, api.ErrDone)
				mustCall(t, p, m, 2, []api.Val{null()}, n, api.Mach{}, api.ErrDone)
				mustTrap(t, m, api.Errno(n), api.Mach{}, api.ErrDone)
			}
			mustReturn(t, m, number(1), api.Mach{}, api.ErrDone)
			mustReturn(t, m, api.Val{}, api.Mach{}, api.ErrDone)
			mustReturn(t, m, pointer(4, 0), api.Mach{}, api.ErrDone)
		}
	}
}

// P15.2: a register of the top frame has its value; one that is not set has none.
func TestReg(t *testing.T) {
	m := busy()
	for at := range m.Frames {
		now := busy()
		now.Frames = now.Frames[:at+1]
		regs := now.Frames[at].Regs
		for r, v := range regs {
			told := api.OK
			if v == unset() {
				told = api.ErrNone
			}
			mustReg(t, now, r, v, told)
		}
		for _, r := range []int{-1, len(regs), len(regs) + 1, math.MinInt, math.MaxInt, 1 << 32} {
			mustReg(t, now, r, api.Val{}, api.ErrArg)
		}
	}
	for _, v := range ordinary() {
		mustReg(t, with(newly(2), 0, 1, v), 1, v, api.OK)
	}
	mustReg(t, newly(2), 0, api.Val{}, api.ErrNone)
	mustReg(t, newly(0), 0, api.Val{}, api.ErrArg)
}

// P15.2, P15.5: any value that may be is set, whether the register was or not; nothing else is turned.
func TestSet(t *testing.T) {
	for _, v := range ordinary() {
		for at := 1; at <= 3; at++ {
			m := busy()
			m.Frames = m.Frames[:at]
			for r := range m.Frames[at-1].Regs {
				mustSet(t, m, r, v, with(m, at-1, r, v), api.OK)
				now, _ := mach.Set(m, r, v)
				mustReg(t, now, r, v, api.OK)
			}
		}
	}
	// A store's, or a print's, is a register like others.
	m := begun(t, family())
	m.Frames = append(m.Frames, frame(3, 2))
	mustSet(t, m, 1, number(3), with(m, 1, 1, number(3)), api.OK)
}

// P15.2: what is no register, and what may not be, is not set.
func TestSetRefuses(t *testing.T) {
	m := busy()
	m.Frames = m.Frames[:2]
	for _, r := range []int{-1, 7, 8, math.MinInt, math.MaxInt} {
		mustSet(t, m, r, number(1), api.Mach{}, api.ErrArg)
	}
	for _, v := range strange() {
		mustSet(t, m, 0, v, api.Mach{}, api.ErrArg)
		mustSet(t, m, 6, v, api.Mach{}, api.ErrArg)
		mustSet(t, m, 9, v, api.Mach{}, api.ErrArg)
	}
	mustSet(t, newly(0), 0, number(1), api.Mach{}, api.ErrArg)
}

// standing is a machine of a program of one function, in a block of it, with registers of these numbers; what is 0 is not set.
func standing(block, at int, regs ...int64) api.Mach {
	x := frame(0, len(regs))
	x.Block, x.At = block, at
	for r, n := range regs {
		if n != 0 {
			x.Regs[r] = number(n)
		}
	}
	return api.Mach{Frames: []api.Frame{x}, State: api.StRun}
}

// P15.2: phis have what stands beside the block that is left, all at once; the frame is behind them.
func TestEnter(t *testing.T) {
	p := rounds()
	mustEnter(t, p, standing(0, 3, 10, 20, 30, 0, 0, 0, 0, 0, 0, 0, 0, 0, 0, 0), 1, standing(1, 4, 10, 20, 30, 10, 20, 30, 20, 0, 0, 0, 0, 0, 0, 0), api.OK)
	// r3, r4 and r5 are handed round: each has what another one had.
	mustEnter(t, p, standing(1, 5, 10, 20, 30, 1, 2, 3, 4, 5, 0, 0, 0, 0, 0, 0), 1, standing(1, 4, 10, 20, 30, 2, 3, 1, 4, 5, 0, 0, 0, 0, 0, 0), api.OK)
	mustEnter(t, p, standing(1, 5, 10, 20, 30, 1, 2, 3, 4, 5, 6, 7, 8, 9, 11, 12), 2, standing(2, 1, 10, 20, 30, 1, 2, 3, 4, 5, 2, 7, 8, 9, 11, 12), api.OK)
	// What is beside the block in the middle, or at the end, of three.
	for k, from := range []int{2, 4, 5} {
		m := standing(from, 0, 10, 20, 30, 1, 2, 3, 4, 5, 6, 0, 0, 0, 9, 0)
		mustEnter(t, p, m, 3, standing(3, 1, 10, 20, 30, 1, 2, 3, 4, 5, 6, []int64{6, 1, 4}[k], 0, 0, 9, 0), api.OK)
	}
	// A block without phis is entered from anywhere, wherever the frame stands, and whatever is set.
	for _, from := range []int{0, 1, 2, 3, 4, 5, 6} {
		for _, to := range []int{0, 4, 5} {
			mustEnter(t, p, standing(from, 1, make([]int64, 14)...), to, standing(to, 0, make([]int64, 14)...), api.OK)
		}
	}
	mustEnter(t, idle(), newly(0), 1, turned(newly(0), func(m *api.Mach) { m.Frames[0].Block = 1 }), api.OK)
}

// P15.2, P15.5: the top frame alone enters, in its own function; nothing else is turned.
func TestEnterTop(t *testing.T) {
	p := family()
	m := busy()
	m.Frames = m.Frames[:2]
	want := turned(m, func(m *api.Mach) {
		m.Frames[1].Regs[4], m.Frames[1].Regs[5] = m.Frames[1].Regs[0], m.Frames[1].Regs[4]
	})
	mustEnter(t, p, m, 1, want, api.OK)
	want = turned(m, func(m *api.Mach) {
		m.Frames[1].Regs[6], m.Frames[1].Block, m.Frames[1].At = m.Frames[1].Regs[5], 2, 1
	})
	mustEnter(t, p, m, 2, want, api.OK)
	m.Frames = m.Frames[:1]
	mustEnter(t, p, m, 1, turned(m, func(m *api.Mach) { m.Frames[0].Block, m.Frames[0].At = 1, 0 }), api.OK)
	mustEnter(t, p, m, 2, api.Mach{}, api.ErrArg)
	mustEnter(t, p, busy(), 0, turned(busy(), func(m *api.Mach) { m.Frames[2].At = 0 }), api.OK)
	mustEnter(t, p, busy(), 1, api.Mach{}, api.ErrArg)
}

// P15.2: values of all kinds go through phis as they are.
func TestEnterKinds(t *testing.T) {
	p := family()
	for _, v := range ordinary() {
		m := api.Mach{Frames: []api.Frame{frame(0, 3), frame(1, 7, v, unset(), unset(), number(1))}, State: api.StRun}
		want := turned(m, func(m *api.Mach) {
			m.Frames[1].Regs[4], m.Frames[1].Regs[5], m.Frames[1].Block, m.Frames[1].At = number(1), v, 1, 2
		})
		mustEnter(t, p, m, 1, want, api.OK)
	}
}

// P15.2: the last registers that there can be go through phis.
func TestEnterFull(t *testing.T) {
	p := full()
	m := api.Mach{Frames: []api.Frame{frame(0, 3), frame(1, 132, number(7))}, State: api.StRun}
	for r := range 132 {
		m.Frames[1].Regs[r] = number(int64(1000 + r))
	}
	m.Frames[1].At = 126
	now := turned(m, func(m *api.Mach) {
		m.Frames[1].Block, m.Frames[1].At = 1, 2
		m.Frames[1].Regs[130], m.Frames[1].Regs[131] = number(1000), number(1129)
	})
	mustEnter(t, p, m, 1, now, api.OK)
	mustEnter(t, p, now, 1, turned(now, func(m *api.Mach) {
		m.Frames[1].Regs[130], m.Frames[1].Regs[131] = number(1129), number(1000)
	}), api.OK)
	// All instructions of a block are phis.
	one := chapter()
	l := make([]api.Ins, api.MaxIns-1)
	for k := range l {
		l[k] = phi([]int{0, 1}, 0, min(k+2, api.MaxIns-1))
	}
	one.Funcs[0].Blocks = []api.Block{block(jump(1), integer(1)), block(branch(1, 1, 2), l...), block(back(1))}
	if e := sound.Check(one); e != api.OK {
		t.Fatalf("the program is not well formed: %d", e)
	}
	ahead, behind := make([]int64, api.MaxIns), make([]int64, api.MaxIns)
	for r := range ahead {
		ahead[r], behind[r] = int64(r+1), int64(min(r+2, api.MaxIns))
	}
	behind[0] = 1
	mustEnter(t, one, standing(1, api.MaxIns-1, ahead...), 1, standing(1, api.MaxIns-1, behind...), api.OK)
}

// P15.2: a block that is not there, or whose phis have nothing beside the one that is left, is not entered.
func TestEnterRefuses(t *testing.T) {
	p := rounds()
	m := standing(0, 3, 10, 20, 30, 1, 2, 3, 4, 5, 6, 7, 8, 9, 11, 12)
	for _, to := range []int{-1, 7, 8, math.MinInt, math.MaxInt, 2, 3, 6} {
		mustEnter(t, p, m, to, api.Mach{}, api.ErrArg)
	}
	for _, from := range []int{0, 1, 3, 6} {
		m.Frames[0].Block = from
		mustEnter(t, p, m, 3, api.Mach{}, api.ErrArg)
	}
	mustEnter(t, idle(), newly(0), 2, api.Mach{}, api.ErrArg)
	mustEnter(t, idle(), newly(0), -1, api.Mach{}, api.ErrArg)
}

// P15.2: a phi has nothing of a register that is not set; that is told behind ErrArg.
func TestEnterNone(t *testing.T) {
	p := rounds()
	for r := range 3 {
		m := standing(0, 3, 10, 20, 30, 1, 2, 3, 4, 5, 6, 7, 8, 9, 11, 12)
		m.Frames[0].Regs[r] = unset()
		mustEnter(t, p, m, 1, api.Mach{}, api.ErrNone)
		m.Frames[0].Block = 2
		mustEnter(t, p, m, 1, api.Mach{}, api.ErrArg)
	}
	for r := 3; r < 7; r++ {
		m := standing(1, 5, 10, 20, 30, 1, 2, 3, 4, 5, 6, 7, 8, 9, 11, 12)
		m.Frames[0].Regs[r] = unset()
		mustEnter(t, p, m, 1, api.Mach{}, api.ErrNone)
	}
	// What is beside another block need not be set.
	mustEnter(t, p, standing(4, 0, 0, 0, 0, 3, 0, 0, 0, 0, 0, 0, 0, 0, 0, 0), 3, standing(3, 1, 0, 0, 0, 3, 0, 0, 0, 0, 0, 3, 0, 0, 0, 0), api.OK)
	mustEnter(t, p, standing(4, 0, 1, 1, 1, 0, 1, 1, 1, 1, 1, 1, 1, 1, 1, 1), 3, api.Mach{}, api.ErrNone)
	mustEnter(t, p, newly(14), 3, api.Mach{}, api.ErrArg)
	mustEnter(t, p, newly(14), 1, api.Mach{}, api.ErrNone)
}

// four are well made values for the four parameters of family's function 1.
func four() []api.Val { return []api.Val{number(3), pointer(1, 0), function(1), number(4)} }

// P15.3: a call lays a frame on top, with what it is told, and nothing else is turned.
func TestCall(t *testing.T) {
	p := family()
	for at := 1; at <= 3; at++ {
		for f, regs := range []int{3, 7, 1, 2} {
			args := [][]api.Val{nil, four(), {null()}, {}}[f]
			m := busy()
			m.Frames = m.Frames[:at]
			for into := range m.Frames[at-1].Regs {
				want := turned(m, func(m *api.Mach) {
					x := frame(f, regs, args...)
					x.Into = into
					m.Frames = append(m.Frames, x)
				})
				mustCall(t, p, m, f, args, into, want, api.OK)
			}
		}
	}
	m := busy()
	want := turned(m, func(m *api.Mach) { m.Frames = append(m.Frames, frame(1, 132, four()...)) })
	mustCall(t, full(), m, 1, four(), 0, want, api.OK)
}

// P15.3: a parameter gets any value that may be, of whatever type it is.
func TestCallArgs(t *testing.T) {
	p := family()
	for _, v := range ordinary() {
		want := turned(busy(), func(m *api.Mach) { m.Frames = append(m.Frames, frame(2, 1, v)) })
		mustCall(t, p, busy(), 2, []api.Val{v}, 0, want, api.OK)
		for k := range 4 {
			args := four()
			args[k] = v
			want = turned(busy(), func(m *api.Mach) { m.Frames = append(m.Frames, frame(1, 7, args...)) })
			mustCall(t, p, busy(), 1, args, 0, want, api.OK)
		}
	}
}

// P15.3: wrong functions, parameters and registers, each alone.
func TestCallRefuses(t *testing.T) {
	p := family()
	for _, f := range []int{-1, 4, 5, math.MinInt, math.MaxInt, 1 << 32} {
		mustCall(t, p, busy(), f, nil, 0, api.Mach{}, api.ErrArg)
		mustCall(t, p, busy(), f, four(), 0, api.Mach{}, api.ErrArg)
	}
	for f, want := range []int{0, 4, 1, 0} {
		for n := range 7 {
			if n != want {
				mustCall(t, p, busy(), f, slices.Repeat([]api.Val{number(1)}, n), 0, api.Mach{}, api.ErrArg)
			}
		}
	}
	for _, v := range strange() {
		mustCall(t, p, busy(), 2, []api.Val{v}, 0, api.Mach{}, api.ErrArg)
		for k := range 4 {
			args := four()
			args[k] = v
			mustCall(t, p, busy(), 1, args, 0, api.Mach{}, api.ErrArg)
		}
	}
	for _, into := range []int{-1, 1, 2, 7, math.MinInt, math.MaxInt} {
		mustCall(t, p, busy(), 0, nil, into, api.Mach{}, api.ErrArg)
		mustCall(t, p, busy(), 1, four(), into, api.Mach{}, api.ErrArg)
	}
	// It is a register of the top frame, and not of the new one.
	m := busy()
	m.Frames = m.Frames[:1]
	mustCall(t, p, m, 1, four(), 3, api.Mach{}, api.ErrArg)
	mustCall(t, p, m, 1, four(), 6, api.Mach{}, api.ErrArg)
	mustCall(t, idle(), newly(0), 0, nil, 0, api.Mach{}, api.ErrArg)
}

// P15.3: a frame may lie on as many as there can be.
func TestCallDeep(t *testing.T) {
	p := family()
	m := begun(t, p)
	e := api.OK
	for range 300 {
		if m, e = mach.Call(p, m, 2, []api.Val{null()}, 0); e != api.OK {
			t.Fatalf("Call tells %d", e)
		}
	}
	want := turned(newly(3), func(m *api.Mach) {
		m.Frames = append(m.Frames, slices.Repeat([]api.Frame{frame(2, 1, null())}, 300)...)
	})
	must(t, "Call, many times", m, e, want, api.OK)
	for k := range 300 {
		if m, e = mach.Return(m, number(int64(k))); e != api.OK {
			t.Fatalf("Return tells %d", e)
		}
	}
	must(t, "Return, many times", m, e, with(newly(3), 0, 0, number(299)), api.OK)
}

// dead is m, in which these blocks are not Alive.
func dead(m api.Mach, l ...int) api.Mach {
	return turned(m, func(m *api.Mach) {
		for _, k := range l {
			m.Mem[k-1].Alive = false
		}
	})
}

// P15.3: a return takes the top frame away, with its blocks, and the register of the one ahead gets what it answers.
func TestReturn(t *testing.T) {
	for _, v := range []api.Val{number(0), number(-5), null(), function(0), function(8), pointer(1, 0), pointer(1, 1), pointer(2, 1), pointer(3, 0), pointer(5, 0), pointer(7, 0)} {
		want := with(dead(busy(), 4, 8), 1, 4, v)
		want.Frames = want.Frames[:2]
		mustReturn(t, busy(), v, want, api.OK)
	}
	m := dead(busy(), 4, 8)
	m.Frames = m.Frames[:2]
	for _, v := range []api.Val{number(3), null(), pointer(1, 1), pointer(2, 0), pointer(2, 1), pointer(7, 0)} {
		want := with(dead(m, 3), 0, 1, v)
		want.Frames = want.Frames[:1]
		mustReturn(t, m, v, want, api.OK)
	}
}

// P15.3: what points to a block of the top frame's depth is not answered: the machine ends, and stays as it is.
func TestReturnLife(t *testing.T) {
	for _, v := range []api.Val{pointer(4, 0), pointer(6, 0), pointer(8, 0)} {
		mustReturn(t, busy(), v, ended(busy(), api.TrapLife), api.OK)
	}
	m := busy()
	m.Frames = m.Frames[:2]
	for _, v := range []api.Val{pointer(3, 0), pointer(3, 1), pointer(5, 0)} {
		mustReturn(t, m, v, ended(m, api.TrapLife), api.OK)
	}
	m = dead(m, 3)
	m.Frames = m.Frames[:1]
	for _, v := range []api.Val{pointer(2, 0), pointer(2, 1)} {
		mustReturn(t, m, v, ended(m, api.TrapLife), api.OK)
	}
}

// P15.3: a block that is over is deeper than the top frame, perhaps: only one of just its depth is a trap.
func TestReturnDeeper(t *testing.T) {
	m := dead(busy(), 3, 4, 8)
	m.Frames = m.Frames[:1]
	for _, v := range []api.Val{pointer(3, 1), pointer(4, 0), pointer(5, 0), pointer(6, 0)} {
		want := dead(m, 2)
		want.Frames, want.State = nil, api.StExit
		mustReturn(t, m, v, want, api.OK)
	}
}

// P15.3: behind the first frame's return the machine has exited, with the value's N, whatever the value is.
func TestReturnExit(t *testing.T) {
	for _, x := range []struct {
		v    api.Val
		exit int64
	}{
		{number(7), 7}, {number(0), 0}, {number(-1), -1}, {number(math.MinInt64), math.MinInt64}, {number(math.MaxInt64), math.MaxInt64},
		{null(), 0}, {function(0), 0}, {function(3), 3}, {pointer(1, 1), 0}, {pointer(7, 0), 0},
	} {
		mustReturn(t, newly(2, 5), number(x.exit), api.Mach{In: []int64{5}, State: api.StExit, Exit: x.exit}, api.OK)
		m := dead(busy(), 3, 4, 8)
		m.Frames = m.Frames[:1]
		want := dead(m, 2)
		want.Frames, want.State, want.Exit = nil, api.StExit, x.exit
		mustReturn(t, m, x.v, want, api.OK)
	}
}

// P15.3: what may not be, and what is no value of the memory, is not answered.
func TestReturnRefuses(t *testing.T) {
	for _, v := range append(strange(), pointer(9, 0), pointer(1, 2), pointer(8, 1), pointer(4, 1), pointer(math.MaxInt, 0), pointer(1, math.MaxInt)) {
		for at := 1; at <= 3; at++ {
			m := busy()
			m.Frames = m.Frames[:at]
			mustReturn(t, m, v, api.Mach{}, api.ErrArg)
		}
	}
	mustReturn(t, newly(2), pointer(1, 0), api.Mach{}, api.ErrArg)
	mustReturn(t, newly(2), null(), api.Mach{State: api.StExit}, api.OK)
}

// P15.3: a trap ends a machine, which else stays as it is; its number is from 1 to 1,000.
func TestTrap(t *testing.T) {
	for _, m := range []api.Mach{busy(), newly(2), newly(0, 4)} {
		for _, e := range []api.Errno{1, 2, api.ErrNone, api.TrapZero, api.TrapNull, api.TrapLife, api.ErrDone, 999, 1000} {
			mustTrap(t, m, e, ended(m, e), api.OK)
		}
		for _, e := range []api.Errno{0, -1, 1001, 1002, math.MinInt, math.MaxInt, 1<<32 + 1} {
			mustTrap(t, m, e, api.Mach{}, api.ErrArg)
		}
	}
}

// P15.1, P15.3: what is ended does nothing more.
func TestEnded(t *testing.T) {
	trapped, _ := mach.Trap(busy(), 140)
	outlived, _ := mach.Return(busy(), pointer(4, 0))
	exited, _ := mach.Return(newly(2), number(1))
	for _, m := range []api.Mach{trapped, outlived, exited} {
		mustReg(t, m, 0, api.Val{}, api.ErrDone)
		mustSet(t, m, 0, number(1), api.Mach{}, api.ErrDone)
		mustEnter(t, family(), m, 0, api.Mach{}, api.ErrDone)
		mustCall(t, family(), m, 0, nil, 0, api.Mach{}, api.ErrDone)
		mustReturn(t, m, number(1), api.Mach{}, api.ErrDone)
		mustTrap(t, m, 5, api.Mach{}, api.ErrDone)
	}
}

// P15.4: what is handed in is only read, with what is behind it; what is answered is new memory.
func TestOnlyRead(t *testing.T) {
	p := family()
	args := append(four(), number(77))[:4]
	two := func(m api.Mach) api.Mach {
		m.Frames = m.Frames[:2]
		return m
	}
	for what, do := range map[string]func(m api.Mach) (api.Mach, api.Errno){
		"Set":          func(m api.Mach) (api.Mach, api.Errno) { return mach.Set(m, 0, number(4)) },
		"Set the same": func(m api.Mach) (api.Mach, api.Errno) { return mach.Set(m, 0, pointer(2, 1)) },
		"Enter":        func(m api.Mach) (api.Mach, api.Errno) { return mach.Enter(p, two(m), 1) },
		"Enter 2":      func(m api.Mach) (api.Mach, api.Errno) { return mach.Enter(p, two(m), 2) },
		"Enter itself": func(m api.Mach) (api.Mach, api.Errno) { return mach.Enter(p, m, 0) },
		"Call":         func(m api.Mach) (api.Mach, api.Errno) { return mach.Call(p, m, 1, args, 0) },
		"Call 0":       func(m api.Mach) (api.Mach, api.Errno) { return mach.Call(p, m, 0, nil, 0) },
		"Return":       func(m api.Mach) (api.Mach, api.Errno) { return mach.Return(m, number(4)) },
		"Return far":   func(m api.Mach) (api.Mach, api.Errno) { return mach.Return(m, pointer(4, 0)) },
		"Trap":         func(m api.Mach) (api.Mach, api.Errno) { return mach.Trap(m, 140) },
		"Twin":         func(m api.Mach) (api.Mach, api.Errno) { return mach.Twin(m), api.OK },
	} {
		m, was := deep(busy()), deep(busy())
		now, e := do(m)
		if e != api.OK {
			t.Errorf("%s tells %d", what, e)
		}
		mustBeNew(t, what, m, now)
		for _, l := range values(now) {
			if share(l, args) {
				t.Errorf("%s keeps what it is told", what)
			}
		}
		if !reflect.DeepEqual(wide(m), wide(was)) {
			t.Errorf("%s turned what was handed in: %+v, was %+v", what, wide(m), wide(was))
		}
		if !slices.Equal(args[:5], append(four(), number(77))) {
			t.Errorf("%s turned what it is told", what)
		}
		if !reflect.DeepEqual(p, family()) {
			t.Errorf("%s turned the program", what)
		}
	}
}

// P15.4: a new machine has the numbers in new memory; nothing else is kept of what is handed in.
func TestBeginIsNew(t *testing.T) {
	p, in := family(), append(many(3), 99)[:3]
	m, e := mach.Begin(p, in)
	if e != api.OK {
		t.Fatalf("Begin tells %d", e)
	}
	if share(m.In, in) {
		t.Error("the numbers are kept")
	}
	m.In = append(m.In, 1)
	m.In[0], m.Frames[0].Regs[0] = 2, number(4)
	if !slices.Equal(in[:4], append(many(3), 99)) || !reflect.DeepEqual(p, family()) {
		t.Error("what was handed in is turned")
	}
	mustBegin(t, p, in, newly(3, many(3)...), api.OK)
}

// P15.4: also what asks alone turns nothing.
func TestAsksOnlyRead(t *testing.T) {
	m, was := deep(busy()), deep(busy())
	mach.Reg(m, 0)
	mach.Reg(m, 5)
	mach.Same(m, m)
	mach.Same(m, api.Mach{})
	mach.Set(m, 9, number(1))
	mach.Enter(family(), m, 9)
	mach.Call(family(), m, 9, nil, 0)
	mach.Return(m, pointer(99, 0))
	mach.Trap(m, 0)
	if !reflect.DeepEqual(wide(m), wide(was)) {
		t.Errorf("what was handed in is turned: %+v, was %+v", wide(m), wide(was))
	}
}

// P15.1 to P15.3: nothing is kept from call to call.
func TestAgain(t *testing.T) {
	p := family()
	for range 2 {
		mustBegin(t, p, many(2), newly(3, many(2)...), api.OK)
		mustBegin(t, api.Program{}, nil, api.Mach{}, api.ErrShape)
		mustSet(t, busy(), 0, number(6), with(busy(), 2, 0, number(6)), api.OK)
		mustReg(t, busy(), 0, pointer(2, 1), api.OK)
		mustReturn(t, busy(), pointer(4, 0), ended(busy(), api.TrapLife), api.OK)
		mustReturn(t, busy(), pointer(4, 1), api.Mach{}, api.ErrArg)
		mustTrap(t, busy(), 9, ended(busy(), 9), api.OK)
		mustEnter(t, rounds(), newly(14), 1, api.Mach{}, api.ErrNone)
	}
}

// Of machines that are of no program nothing is promised but that calls end.
func TestOfNoProgram(t *testing.T) {
	strays := []api.Mach{odd(), busy(), {}, {Frames: []api.Frame{{}}}, {Frames: []api.Frame{{Func: 9}, {Func: -1, Regs: make([]api.Val, 500)}}}}
	long := busy()
	long.Frames[2] = frame(1, 500)
	strays = append(strays, long)
	programs := []api.Program{{}, chapter(), rounds(), family(), full(), {Funcs: make([]api.Func, 3)}}
	for _, m := range strays {
		m.State = api.StRun
		for _, p := range programs {
			for n := -1; n < 4; n++ {
				mach.Reg(m, n)
				mach.Set(m, n, number(1))
				mach.Enter(p, m, n)
				mach.Call(p, m, n, nil, n)
				mach.Return(m, number(int64(n)))
				mach.Return(m, pointer(1, n))
				mach.Trap(m, api.Errno(n))
			}
		}
	}
}
