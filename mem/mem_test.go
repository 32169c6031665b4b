package mem_test

import (
	"math"
	"reflect"
	"slices"
	"testing"

	"fescue/api"
	"fescue/mem"
)

func number(n int64) api.Val { return api.Val{Kind: api.ValInt, N: n} }

func function(n int64) api.Val { return api.Val{Kind: api.ValFn, N: n} }

func pointer(block, at int) api.Val { return api.Val{Kind: api.ValPtr, Block: block, At: at} }

func null() api.Val { return api.Val{Kind: api.ValPtr} }

// heap is a block of the heap that is Alive.
func heap(cells ...api.Val) api.Blk { return frame(0, cells...) }

// frame is a block of a depth that is Alive.
func frame(depth int, cells ...api.Val) api.Blk {
	return api.Blk{Site: 3, Type: 1, Depth: depth, Alive: true, Cells: cells}
}

// over is that block, not Alive any more.
func over(b api.Blk) api.Blk {
	b.Alive = false
	return b
}

// blocks are as many of the heap, of one number each.
func blocks(many int) []api.Blk {
	m := make([]api.Blk, many)
	for k := range m {
		m[k] = heap(number(int64(k)))
	}
	return m
}

// kinds are as many cells' kinds.
func kinds(many int, kind uint8) []uint8 {
	return slices.Repeat([]uint8{kind}, many)
}

// some is a memory with blocks of all sorts: two of the heap, of a frame, of one in it, and one of each that is over.
func some() []api.Blk {
	return []api.Blk{
		heap(number(5), pointer(2, 1), function(2)),
		heap(null(), number(-7)),
		frame(1, pointer(1, 0), pointer(3, 1), number(1)),
		frame(2, function(0), pointer(3, 2), pointer(4, 0)),
		over(heap(number(9), pointer(4, 2))),
		over(frame(2, number(8), pointer(6, 0))),
	}
}

// bad is a memory that may not be.
func bad() []api.Blk { return []api.Blk{heap(number(1)), heap(pointer(3, 0))} }

func mustCheck(t *testing.T, m []api.Blk, want api.Errno) {
	t.Helper()
	if e := mem.Check(m); e != want {
		t.Errorf("Check(%+v) = %d, want %d", m, e, want)
	}
}

func mustNew(t *testing.T, m []api.Blk, site, kind, depth int, cells []uint8, want []api.Blk, told api.Errno) {
	t.Helper()
	now, p, e := mem.New(m, site, kind, depth, cells)
	back := api.Val{}
	if told == api.OK {
		back = pointer(len(want), 0)
	}
	if !reflect.DeepEqual(now, want) || p != back || e != told {
		t.Errorf("New(%+v, %d, %d, %d, %v) = %+v, %+v, %d; want %+v, %+v, %d", m, site, kind, depth, cells, now, p, e, want, back, told)
	}
}

func mustLoad(t *testing.T, m []api.Blk, p, want api.Val, told api.Errno) {
	t.Helper()
	if v, e := mem.Load(m, p); v != want || e != told {
		t.Errorf("Load(%+v, %+v) = %+v, %d; want %+v, %d", m, p, v, e, want, told)
	}
}

func mustStore(t *testing.T, m []api.Blk, p, v api.Val, want []api.Blk, told api.Errno) {
	t.Helper()
	if now, e := mem.Store(m, p, v); !reflect.DeepEqual(now, want) || e != told {
		t.Errorf("Store(%+v, %+v, %+v) = %+v, %d; want %+v, %d", m, p, v, now, e, want, told)
	}
}

func mustFree(t *testing.T, m []api.Blk, p api.Val, want []api.Blk, told api.Errno) {
	t.Helper()
	if now, e := mem.Free(m, p); !reflect.DeepEqual(now, want) || e != told {
		t.Errorf("Free(%+v, %+v) = %+v, %d; want %+v, %d", m, p, now, e, want, told)
	}
}

func mustPop(t *testing.T, m []api.Blk, depth int, want []api.Blk, told api.Errno) {
	t.Helper()
	if now, e := mem.Pop(m, depth); !reflect.DeepEqual(now, want) || e != told {
		t.Errorf("Pop(%+v, %d) = %+v, %d; want %+v, %d", m, depth, now, e, want, told)
	}
}

func mustMove(t *testing.T, m []api.Blk, p api.Val, by int, want api.Val, told api.Errno) {
	t.Helper()
	if v, e := mem.Move(m, p, by); v != want || e != told {
		t.Errorf("Move(%+v, %+v, %d) = %+v, %d; want %+v, %d", m, p, by, v, e, want, told)
	}
}

func mustDepth(t *testing.T, m []api.Blk, v api.Val, want int, told api.Errno) {
	t.Helper()
	if n, e := mem.Depth(m, v); n != want || e != told {
		t.Errorf("Depth(%+v, %+v) = %d, %d; want %d, %d", m, v, n, e, want, told)
	}
}

func mustHold(t *testing.T, m []api.Blk, want bool, told api.Errno) {
	t.Helper()
	if holds, e := mem.Holds(m); holds != want || e != told {
		t.Errorf("Holds(%+v) = %t, %d; want %t, %d", m, holds, e, want, told)
	}
}

// turned is a memory in which one block is turned.
func turned(m []api.Blk, at int, by func(b *api.Blk)) []api.Blk {
	l := slices.Clone(m)
	l[at].Cells = slices.Clone(l[at].Cells)
	by(&l[at])
	return l
}

// with is a memory in which one cell has v.
func with(m []api.Blk, block, at int, v api.Val) []api.Blk {
	return turned(m, block-1, func(b *api.Blk) { b.Cells[at] = v })
}

// without is a memory in which one block is over.
func without(m []api.Blk, block int) []api.Blk {
	return turned(m, block-1, func(b *api.Blk) { b.Alive = false })
}

// P14.2, P14.3: the document's examples.
func TestExamples(t *testing.T) {
	m, p, e := mem.New(nil, 0, 0, 0, []uint8{api.KInt})
	if e != api.OK || p != pointer(1, 0) {
		t.Fatalf("New tells %+v, %d", p, e)
	}
	m, e = mem.Store(m, p, number(7))
	if e != api.OK {
		t.Fatalf("Store tells %d", e)
	}
	mustLoad(t, m, p, number(7), api.OK)
	m, e = mem.Free(m, p)
	if e != api.OK {
		t.Fatalf("Free tells %d", e)
	}
	mustLoad(t, m, p, api.Val{}, api.TrapFreed)

	m, p, _ = mem.New(nil, 0, 0, 0, []uint8{api.KPtr})
	m, own, _ := mem.New(m, 1, 0, 1, []uint8{api.KInt})
	mustStore(t, m, p, own, nil, api.TrapLife)
}

// P14.1: memories that may be.
func TestCheckMayBe(t *testing.T) {
	mustCheck(t, nil, api.OK)
	mustCheck(t, []api.Blk{}, api.OK)
	mustCheck(t, some(), api.OK)
	mustCheck(t, blocks(1), api.OK)
	mustCheck(t, blocks(api.MaxSteps), api.OK)
	mustCheck(t, []api.Blk{heap(slices.Repeat([]api.Val{number(1)}, api.MaxCells)...)}, api.OK)
	mustCheck(t, []api.Blk{{Site: math.MaxInt, Type: math.MaxInt, Depth: math.MaxInt, Cells: []api.Val{number(0)}}}, api.OK)
	mustCheck(t, []api.Blk{{Cells: []api.Val{function(8)}}}, api.OK)
	mustCheck(t, []api.Blk{heap(pointer(1, 0))}, api.OK)
	mustCheck(t, []api.Blk{heap(pointer(2, 1)), heap(pointer(1, 0), pointer(2, 1))}, api.OK)
	// Life is none of it.
	mustCheck(t, []api.Blk{heap(pointer(2, 0)), frame(1, number(1))}, api.OK)
	last := blocks(api.MaxSteps)
	last[0] = heap(pointer(api.MaxSteps, 0))
	mustCheck(t, last, api.OK)
}

// P14.1: too many blocks, whatever they are.
func TestCheckBlocks(t *testing.T) {
	mustCheck(t, blocks(api.MaxSteps+1), api.ErrBad)
	if e := mem.Check(make([]api.Blk, 1<<20)); e != api.ErrBad {
		t.Errorf("a memory far too great: %d", e)
	}
}

// P14.1: each number of a block that may not be, alone; and the cells' number.
func TestCheckNumbers(t *testing.T) {
	for _, at := range []int{0, 3, 5} {
		for _, n := range []int{-1, -2, math.MinInt} {
			mustCheck(t, turned(some(), at, func(b *api.Blk) { b.Site = n }), api.ErrBad)
			mustCheck(t, turned(some(), at, func(b *api.Blk) { b.Type = n }), api.ErrBad)
			mustCheck(t, turned(some(), at, func(b *api.Blk) { b.Depth = n }), api.ErrBad)
		}
		mustCheck(t, turned(some(), at, func(b *api.Blk) { b.Site, b.Type, b.Depth = 0, 0, 0 }), api.OK)
	}
	mustCheck(t, []api.Blk{heap()}, api.ErrBad)
	mustCheck(t, []api.Blk{over(heap())}, api.ErrBad)
	mustCheck(t, []api.Blk{{}}, api.ErrBad)
	mustCheck(t, []api.Blk{heap(number(1)), heap([]api.Val{}...)}, api.ErrBad)
	mustCheck(t, []api.Blk{heap(slices.Repeat([]api.Val{number(1)}, api.MaxCells+1)...)}, api.ErrBad)
	mustCheck(t, []api.Blk{heap(make([]api.Val, 1<<16)...)}, api.ErrBad)
}

// strange are values that are none of the memory some.
func strange() []api.Val {
	return []api.Val{
		{},
		{Kind: 4},
		{Kind: 255, N: 1},
		{Kind: api.ValInt, Block: 1},
		{Kind: api.ValInt, At: 1},
		{Kind: api.ValInt, N: 1, Block: 99},
		{Kind: api.ValPtr, N: 1},
		{Kind: api.ValPtr, N: 1, Block: 1},
		{Kind: api.ValPtr, At: 1},
		pointer(-1, 0),
		pointer(1, -1),
		pointer(math.MinInt, 0),
		pointer(1, math.MinInt),
		pointer(1, 3),
		pointer(1, 4),
		pointer(2, 2),
		pointer(2, api.MaxCells),
		pointer(6, 2),
		pointer(7, 0),
		pointer(7, 1),
		pointer(math.MaxInt, 0),
		pointer(1, math.MaxInt),
		pointer(math.MaxInt, math.MaxInt),
		function(-1),
		function(9),
		{Kind: api.ValFn, Block: 1},
		{Kind: api.ValFn, N: 1, At: 1},
	}
}

// P14.1: each value that is none of the memory, alone, in each cell, also of a block that is not Alive.
func TestCheckValues(t *testing.T) {
	m := some()
	for k, b := range m {
		for at := range b.Cells {
			mustCheck(t, with(m, k+1, at, number(math.MinInt64)), api.OK)
			mustCheck(t, with(m, k+1, at, pointer(6, 1)), api.OK)
			mustCheck(t, with(m, k+1, at, null()), api.OK)
			for _, v := range strange() {
				mustCheck(t, with(m, k+1, at, v), api.ErrBad)
			}
		}
	}
}

// P14.1: a memory is the same as itself, and each thing turned, alone, is another one.
func TestSame(t *testing.T) {
	m := some()
	if !mem.Same(m, some()) || !mem.Same(m, m) || !mem.Same(nil, []api.Blk{}) || !mem.Same(nil, nil) {
		t.Error("a memory is not the same as itself")
	}
	if !mem.Same([]api.Blk{{Cells: nil}}, []api.Blk{{Cells: []api.Val{}}}) {
		t.Error("no cells are not the same as none")
	}
	turns := []func(b *api.Blk){
		func(b *api.Blk) { b.Site++ },
		func(b *api.Blk) { b.Type-- },
		func(b *api.Blk) { b.Depth++ },
		func(b *api.Blk) { b.Alive = !b.Alive },
		func(b *api.Blk) { b.Cells = b.Cells[1:] },
		func(b *api.Blk) { b.Cells = b.Cells[:1] },
		func(b *api.Blk) { b.Cells = nil },
		func(b *api.Blk) { b.Cells = append(b.Cells, number(0)) },
		func(b *api.Blk) { b.Cells = append(b.Cells, api.Val{}) },
		func(b *api.Blk) { b.Cells[0].Kind += 4 },
		func(b *api.Blk) { b.Cells[1].N++ },
		func(b *api.Blk) { b.Cells[1].Block++ },
		func(b *api.Blk) { b.Cells[len(b.Cells)-1].At++ },
		func(b *api.Blk) { slices.Reverse(b.Cells) },
	}
	for k := range m {
		for n, by := range turns {
			l := turned(m, k, by)
			if mem.Same(m, l) || mem.Same(l, m) {
				t.Errorf("turn %d of block %d is not seen", n, k+1)
			}
		}
		short := slices.Delete(some(), k, k+1)
		if mem.Same(m, short) || mem.Same(short, m) {
			t.Errorf("a memory without block %d is the same", k+1)
		}
	}
	if mem.Same(m, nil) || mem.Same(nil, m) || mem.Same(m, append(some(), api.Blk{})) {
		t.Error("memories of other sizes are the same")
	}
	// Memories that may not be, too.
	if !mem.Same(bad(), bad()) || mem.Same(bad(), with(bad(), 2, 0, pointer(4, 0))) || !mem.Same(blocks(5000), blocks(5000)) {
		t.Error("memories that may not be are held against each other amiss")
	}
}

// anyMemories are some, also such as may not be.
func anyMemories() [][]api.Blk {
	return [][]api.Blk{
		nil, {}, some(), bad(), blocks(5000),
		{{}}, {{}, {Cells: []api.Val{}}, {}},
		{{Site: -1, Type: -2, Depth: -3, Alive: true, Cells: strange()}},
		{heap(), heap(number(1)), heap(), heap(make([]api.Val, 1000)...), heap(number(2))},
		{heap(make([]api.Val, 0, 4)...), heap(make([]api.Val, 2, 4)...)},
		make([]api.Blk, 0, 4),
	}
}

// P14.1: a twin is the same, of any memory.
func TestTwin(t *testing.T) {
	for _, m := range anyMemories() {
		if l := mem.Twin(m); !reflect.DeepEqual(l, m) || !mem.Same(l, m) || !mem.Same(m, l) {
			t.Errorf("the twin of %+v is %+v", m, l)
		}
	}
}

// P14.5: a twin is new memory, none of which two of its lists share, nor what stands behind them.
func TestTwinIsNew(t *testing.T) {
	for _, m := range anyMemories() {
		before := mem.Twin(m)
		mustBeNew(t, m, mem.Twin(m))
		if !mem.Same(before, m) {
			t.Errorf("what was turned in a twin is turned in %+v", m)
		}
	}
}

// mustBeNew turns all of an answer, cell by cell, with what is behind each list, and holds what was handed in, and the other cells, against what they were.
func mustBeNew(t *testing.T, in, now []api.Blk) {
	t.Helper()
	behind := now[:cap(now)]
	was := deep(now)
	handed := deep(wide(in))
	for k := range now {
		cells := now[k].Cells[:cap(now[k].Cells)]
		for at := range cells {
			cells[at] = api.Val{Kind: 77, N: int64(k), At: at}
			if at < len(now[k].Cells) {
				was[k].Cells[at] = cells[at]
			}
		}
		now[k].Cells = append(now[k].Cells, api.Val{Kind: 88})
		was[k].Cells = append(was[k].Cells, api.Val{Kind: 88})
	}
	if !reflect.DeepEqual(now, was) {
		t.Errorf("two lists of one answer share memory: %+v, want %+v", now, was)
	}
	for k := range behind {
		behind[k] = api.Blk{Site: -99}
	}
	if !reflect.DeepEqual(wide(in), handed) {
		t.Errorf("an answer shares memory with what was handed in: %+v, was %+v", wide(in), handed)
	}
}

// wide is a memory with what stands behind its lists.
func wide(m []api.Blk) []api.Blk {
	l := slices.Clone(m[:cap(m)])
	for k := range l {
		l[k].Cells = l[k].Cells[:cap(l[k].Cells)]
	}
	return l
}

// deep is a memory, list by list.
func deep(m []api.Blk) []api.Blk {
	if m == nil {
		return nil
	}
	l := make([]api.Blk, len(m))
	for k, b := range m {
		l[k] = b
		if b.Cells != nil {
			l[k].Cells = append([]api.Val{}, b.Cells...)
		}
	}
	return l
}

// P14.2: blocks of all kinds of cells.
func TestNewOrdinary(t *testing.T) {
	one := []api.Blk{{Site: 0, Type: 0, Depth: 0, Alive: true, Cells: []api.Val{number(0)}}}
	mustNew(t, nil, 0, 0, 0, []uint8{api.KInt}, one, api.OK)
	mustNew(t, []api.Blk{}, 0, 0, 0, []uint8{api.KInt}, one, api.OK)
	mustNew(t, some(), 4, 2, 3, []uint8{api.KFn, api.KInt, api.KPtr, api.KPtr},
		append(some(), api.Blk{Site: 4, Type: 2, Depth: 3, Alive: true, Cells: []api.Val{function(0), number(0), null(), null()}}), api.OK)
	mustNew(t, some(), math.MaxInt, math.MaxInt, math.MaxInt, []uint8{api.KPtr},
		append(some(), api.Blk{Site: math.MaxInt, Type: math.MaxInt, Depth: math.MaxInt, Alive: true, Cells: []api.Val{null()}}), api.OK)
	for _, many := range []int{1, 2, api.MaxCells - 1, api.MaxCells} {
		for kind, v := range map[uint8]api.Val{api.KInt: number(0), api.KPtr: null(), api.KFn: function(0)} {
			mustNew(t, blocks(2), 1, 2, 3, kinds(many, kind), append(blocks(2), api.Blk{Site: 1, Type: 2, Depth: 3, Alive: true, Cells: slices.Repeat([]api.Val{v}, many)}), api.OK)
		}
	}
}

// P14.2: numbers below 0, and cells that may not be.
func TestNewRefuses(t *testing.T) {
	for _, m := range [][]api.Blk{nil, some(), blocks(api.MaxSteps)} {
		for _, n := range []int{-1, math.MinInt} {
			mustNew(t, m, n, 0, 0, []uint8{api.KInt}, nil, api.ErrArg)
			mustNew(t, m, 0, n, 0, []uint8{api.KInt}, nil, api.ErrArg)
			mustNew(t, m, 0, 0, n, []uint8{api.KInt}, nil, api.ErrArg)
		}
		mustNew(t, m, 0, 0, 0, nil, nil, api.ErrArg)
		mustNew(t, m, 0, 0, 0, []uint8{}, nil, api.ErrArg)
		mustNew(t, m, 0, 0, 0, kinds(api.MaxCells+1, api.KInt), nil, api.ErrArg)
		mustNew(t, m, 0, 0, 0, kinds(1<<20, api.KInt), nil, api.ErrArg)
		for kind := range 256 {
			if kind >= int(api.KInt) && kind <= int(api.KFn) {
				continue
			}
			mustNew(t, m, 0, 0, 0, []uint8{uint8(kind)}, nil, api.ErrArg)
			mustNew(t, m, 0, 0, 0, []uint8{api.KInt, uint8(kind), api.KPtr}, nil, api.ErrArg)
			mustNew(t, m, 0, 0, 0, []uint8{api.KInt, api.KPtr, uint8(kind)}, nil, api.ErrArg)
		}
	}
}

// P14.2: the last block that there is room for, and one more; ErrArg is told ahead of ErrFull.
func TestNewFull(t *testing.T) {
	m := blocks(api.MaxSteps - 1)
	mustNew(t, m, 1, 2, 3, []uint8{api.KInt}, append(blocks(api.MaxSteps-1), api.Blk{Site: 1, Type: 2, Depth: 3, Alive: true, Cells: []api.Val{number(0)}}), api.OK)
	m = blocks(api.MaxSteps)
	mustNew(t, m, 1, 2, 3, []uint8{api.KInt}, nil, api.ErrFull)
	// Blocks that are over take their place, too.
	for k := range m {
		m[k].Alive = false
	}
	mustNew(t, m, 0, 0, 0, []uint8{api.KInt}, nil, api.ErrFull)
	mustNew(t, blocks(api.MaxSteps+1), 0, 0, 0, []uint8{api.KInt}, nil, api.ErrBad)
}

// P14.3: values of all kinds, of blocks of the heap and of frames.
func TestLoad(t *testing.T) {
	m := some()
	for k, b := range m {
		for at, v := range b.Cells {
			if b.Alive {
				mustLoad(t, m, pointer(k+1, at), v, api.OK)
			} else {
				mustLoad(t, m, pointer(k+1, at), api.Val{}, api.TrapFreed)
			}
		}
	}
	mustLoad(t, m, null(), api.Val{}, api.TrapNull)
	mustLoad(t, nil, null(), api.Val{}, api.TrapNull)
	mustLoad(t, nil, pointer(1, 0), api.Val{}, api.ErrArg)
}

// P14.3: what is no pointer, or points to nothing.
func TestNoPointer(t *testing.T) {
	m := some()
	for _, p := range append(strange(), number(0), number(1), function(0), function(1)) {
		mustLoad(t, m, p, api.Val{}, api.ErrArg)
		mustStore(t, m, p, number(1), nil, api.ErrArg)
		mustStore(t, m, p, p, nil, api.ErrArg)
		mustFree(t, m, p, nil, api.ErrArg)
		mustMove(t, m, p, 0, api.Val{}, api.ErrArg)
		mustMove(t, m, p, 1, api.Val{}, api.ErrArg)
	}
}

// P14.3: values of the cell's Kind, in each cell; the cell's own ones as well.
func TestStoreOrdinary(t *testing.T) {
	m := some()
	mustStore(t, m, pointer(1, 0), number(6), with(m, 1, 0, number(6)), api.OK)
	mustStore(t, m, pointer(1, 0), number(5), m, api.OK)
	mustStore(t, m, pointer(1, 0), number(math.MinInt64), with(m, 1, 0, number(math.MinInt64)), api.OK)
	mustStore(t, m, pointer(1, 1), null(), with(m, 1, 1, null()), api.OK)
	mustStore(t, m, pointer(1, 1), pointer(1, 1), with(m, 1, 1, pointer(1, 1)), api.OK)
	mustStore(t, m, pointer(1, 2), function(0), with(m, 1, 2, function(0)), api.OK)
	mustStore(t, m, pointer(1, 2), function(8), with(m, 1, 2, function(8)), api.OK)
	mustStore(t, m, pointer(2, 0), pointer(1, 2), with(m, 2, 0, pointer(1, 2)), api.OK)
	mustStore(t, m, pointer(2, 1), number(0), with(m, 2, 1, number(0)), api.OK)
	mustStore(t, m, pointer(3, 1), pointer(2, 0), with(m, 3, 1, pointer(2, 0)), api.OK)
	mustStore(t, m, pointer(4, 2), pointer(4, 2), with(m, 4, 2, pointer(4, 2)), api.OK)
}

// P14.3: values that are none of the memory, or of another Kind; so it is told ahead of all traps.
func TestStoreRefuses(t *testing.T) {
	m := some()
	for k, b := range m {
		for at, own := range b.Cells {
			for _, v := range strange() {
				mustStore(t, m, pointer(k+1, at), v, nil, api.ErrArg)
			}
			for _, v := range []api.Val{number(0), null(), pointer(1, 0), pointer(4, 0), function(0), function(1)} {
				if v.Kind != own.Kind {
					mustStore(t, m, pointer(k+1, at), v, nil, api.ErrArg)
				}
			}
		}
	}
	for _, v := range strange() {
		mustStore(t, m, null(), v, nil, api.ErrArg)
	}
}

// P14.3: null has no cell, so that a value of any Kind traps there.
func TestStoreNull(t *testing.T) {
	for _, v := range []api.Val{number(0), number(7), null(), function(0), function(8)} {
		mustStore(t, some(), null(), v, nil, api.TrapNull)
		mustStore(t, nil, null(), v, nil, api.TrapNull)
	}
	mustStore(t, some(), null(), pointer(4, 0), nil, api.TrapNull)
	mustStore(t, nil, null(), pointer(1, 0), nil, api.ErrArg)
}

// P14.3: a block that is over takes nothing, which is told ahead of a pointer that would outlive its block.
func TestStoreFreed(t *testing.T) {
	m := some()
	mustStore(t, m, pointer(5, 0), number(1), nil, api.TrapFreed)
	mustStore(t, m, pointer(5, 1), null(), nil, api.TrapFreed)
	mustStore(t, m, pointer(5, 1), pointer(3, 0), nil, api.TrapFreed)
	mustStore(t, m, pointer(6, 0), number(1), nil, api.TrapFreed)
	mustStore(t, m, pointer(6, 1), pointer(1, 0), nil, api.TrapFreed)
}

// P14.3: a pointer to a deeper block is refused, wherever it points and whether or not the block is Alive; one to a block as deep, or less, is not, though it be over.
func TestStoreLife(t *testing.T) {
	depths := []int{0, 1, 2, 3, math.MaxInt}
	for _, own := range depths {
		for _, to := range depths {
			for _, alive := range []bool{true, false} {
				m := []api.Blk{frame(own, number(1), null()), frame(to, number(1), null())}
				m[1].Alive = alive
				for at := range 2 {
					if to > own {
						mustStore(t, m, pointer(1, 1), pointer(2, at), nil, api.TrapLife)
					} else {
						mustStore(t, m, pointer(1, 1), pointer(2, at), with(m, 1, 1, pointer(2, at)), api.OK)
					}
				}
				mustStore(t, m, pointer(1, 1), null(), m, api.OK)
				mustStore(t, m, pointer(1, 1), pointer(1, 1), with(m, 1, 1, pointer(1, 1)), api.OK)
			}
		}
	}
}

// P14.3: blocks of the heap go at their cell 0, once; nothing else does.
func TestFree(t *testing.T) {
	m := some()
	mustFree(t, m, pointer(1, 0), without(m, 1), api.OK)
	mustFree(t, m, pointer(2, 0), without(m, 2), api.OK)
	mustFree(t, without(m, 2), pointer(1, 0), without(without(m, 1), 2), api.OK)
	mustFree(t, m, pointer(1, 1), nil, api.TrapFree)
	mustFree(t, m, pointer(1, 2), nil, api.TrapFree)
	mustFree(t, m, pointer(3, 0), nil, api.TrapFree)
	mustFree(t, m, pointer(3, 1), nil, api.TrapFree)
	mustFree(t, m, pointer(4, 0), nil, api.TrapFree)
	mustFree(t, m, null(), nil, api.TrapNull)
	mustFree(t, nil, null(), nil, api.TrapNull)
	// TrapFree is told ahead of TrapFreed.
	mustFree(t, m, pointer(5, 0), nil, api.TrapFreed)
	mustFree(t, m, pointer(5, 1), nil, api.TrapFree)
	mustFree(t, m, pointer(6, 0), nil, api.TrapFree)
	mustFree(t, m, pointer(6, 1), nil, api.TrapFree)
}

// P14.3: what points to a block does so when it is freed, and behind it.
func TestFreeKeepsPointers(t *testing.T) {
	m := []api.Blk{heap(pointer(2, 0)), heap(number(7))}
	now, e := mem.Free(m, pointer(2, 0))
	if e != api.OK {
		t.Fatalf("Free tells %d", e)
	}
	mustLoad(t, now, pointer(1, 0), pointer(2, 0), api.OK)
	mustLoad(t, now, pointer(2, 0), api.Val{}, api.TrapFreed)
	mustStore(t, now, pointer(1, 0), pointer(2, 0), now, api.OK)
	mustFree(t, now, pointer(2, 0), nil, api.TrapFreed)
}

// P14.3: from each cell of a block to each, on and back; and none beside them.
func TestMove(t *testing.T) {
	m := append(some(), heap(slices.Repeat([]api.Val{number(0)}, api.MaxCells)...))
	for k, b := range m {
		for at := range b.Cells {
			p := pointer(k+1, at)
			for by := -at - 3; by < len(b.Cells)-at+3; by++ {
				if at+by >= 0 && at+by < len(b.Cells) {
					mustMove(t, m, p, by, pointer(k+1, at+by), api.OK)
				} else {
					mustMove(t, m, p, by, api.Val{}, api.ErrArg)
				}
			}
			for _, by := range []int{math.MaxInt, math.MaxInt - 1, math.MinInt, math.MinInt + 1, math.MaxInt - at + 1, 1 << 32, -1 << 32} {
				mustMove(t, m, p, by, api.Val{}, api.ErrArg)
			}
		}
	}
	for _, by := range []int{0, 1, -1, math.MaxInt, math.MinInt} {
		mustMove(t, m, null(), by, api.Val{}, api.TrapNull)
		mustMove(t, nil, null(), by, api.Val{}, api.TrapNull)
	}
}

// P14.4: all blocks of a depth, or a greater one, are over; those that are so already stay so.
func TestPop(t *testing.T) {
	m := some()
	mustPop(t, m, 1, without(without(m, 3), 4), api.OK)
	mustPop(t, m, 2, without(m, 4), api.OK)
	mustPop(t, m, 3, m, api.OK)
	mustPop(t, m, math.MaxInt, m, api.OK)
	mustPop(t, nil, 1, nil, api.OK)
	mustPop(t, blocks(3), 1, blocks(3), api.OK)
	far := []api.Blk{frame(math.MaxInt, number(1)), frame(math.MaxInt-1, number(1)), heap(number(1))}
	mustPop(t, far, math.MaxInt, without(far, 1), api.OK)
	mustPop(t, far, 1, without(without(far, 1), 2), api.OK)
	for _, depth := range []int{0, -1, math.MinInt} {
		mustPop(t, m, depth, nil, api.ErrArg)
		mustPop(t, nil, depth, nil, api.ErrArg)
	}
}

// P14.4: the depths of what is pointed to, Alive or not; 0 of what does not point.
func TestDepth(t *testing.T) {
	m := some()
	for k, b := range m {
		for at := range b.Cells {
			mustDepth(t, m, pointer(k+1, at), b.Depth, api.OK)
		}
	}
	mustDepth(t, []api.Blk{frame(math.MaxInt, number(1))}, pointer(1, 0), math.MaxInt, api.OK)
	for _, v := range []api.Val{null(), number(0), number(3), function(0), function(4)} {
		mustDepth(t, m, v, 0, api.OK)
		mustDepth(t, nil, v, 0, api.OK)
	}
	for _, v := range strange() {
		mustDepth(t, m, v, 0, api.ErrArg)
		mustDepth(t, nil, v, 0, api.ErrArg)
	}
}

// P14.4: life does not hold where a cell of a block that is Alive, whichever it is, points to a deeper one, Alive or not.
func TestHolds(t *testing.T) {
	mustHold(t, nil, true, api.OK)
	mustHold(t, some(), true, api.OK)
	mustHold(t, blocks(3), true, api.OK)
	for _, own := range []int{0, 1, 2, math.MaxInt} {
		for _, to := range []int{0, 1, 2, math.MaxInt} {
			for at := range 3 {
				for alive := range 4 {
					m := []api.Blk{heap(number(1)), frame(to, number(1)), frame(own, null(), null(), null())}
					m[2].Cells[at] = pointer(2, 0)
					m[1].Alive = alive&1 > 0
					m[2].Alive = alive&2 > 0
					mustHold(t, m, own >= to || !m[2].Alive, api.OK)
				}
			}
		}
	}
	// A number is no pointer, whatever it is.
	mustHold(t, []api.Blk{heap(number(2), function(2)), frame(1, number(1))}, true, api.OK)
}

// P14.1: a memory that may not be is told ahead of all else.
func TestBadFirst(t *testing.T) {
	for _, m := range [][]api.Blk{bad(), blocks(api.MaxSteps + 1), {{}}} {
		for _, v := range []api.Val{{}, null(), number(1), pointer(1, 0), pointer(9, 9)} {
			mustLoad(t, m, v, api.Val{}, api.ErrBad)
			mustStore(t, m, v, v, nil, api.ErrBad)
			mustFree(t, m, v, nil, api.ErrBad)
			mustMove(t, m, v, -1, api.Val{}, api.ErrBad)
			mustMove(t, m, v, 0, api.Val{}, api.ErrBad)
			mustDepth(t, m, v, 0, api.ErrBad)
		}
		mustNew(t, m, -1, -1, -1, nil, nil, api.ErrBad)
		mustNew(t, m, 0, 0, 0, []uint8{api.KInt}, nil, api.ErrBad)
		mustPop(t, m, 0, nil, api.ErrBad)
		mustPop(t, m, 1, nil, api.ErrBad)
		mustHold(t, m, false, api.ErrBad)
	}
}

// roomy is a memory whose lists have room behind them, with what is to be seen there.
func roomy() []api.Blk {
	m := append(some(), api.Blk{Site: -5, Cells: []api.Val{{Kind: 9}}})[:6]
	for k := range m {
		m[k].Cells = append(slices.Clone(m[k].Cells), api.Val{Kind: 9, N: int64(k)})[:len(m[k].Cells)]
	}
	return m
}

// P14.5: what is handed in is only read, with what is behind it; what is answered is new memory.
func TestOnlyRead(t *testing.T) {
	cells := []uint8{api.KInt, api.KPtr, 99}[:2]
	for n, do := range []func(m []api.Blk) []api.Blk{
		func(m []api.Blk) []api.Blk { mem.Check(m); mem.Holds(m); return nil },
		func(m []api.Blk) []api.Blk { mem.Load(m, pointer(1, 1)); mem.Move(m, pointer(1, 1), 1); return nil },
		func(m []api.Blk) []api.Blk { mem.Depth(m, pointer(4, 1)); mem.Same(m, m); return nil },
		func(m []api.Blk) []api.Blk { l, _, _ := mem.New(m, 1, 1, 1, cells); return l },
		func(m []api.Blk) []api.Blk { l, _ := mem.Store(m, pointer(1, 0), number(1)); return l },
		func(m []api.Blk) []api.Blk { l, _ := mem.Store(m, pointer(1, 0), number(5)); return l },
		func(m []api.Blk) []api.Blk { l, _ := mem.Free(m, pointer(2, 0)); return l },
		func(m []api.Blk) []api.Blk { l, _ := mem.Pop(m, 1); return l },
		func(m []api.Blk) []api.Blk { l, _ := mem.Pop(m, 9); return l },
		func(m []api.Blk) []api.Blk { return mem.Twin(m) },
	} {
		m, was := roomy(), roomy()
		now := do(m)
		if (now == nil) != (n < 3) {
			t.Errorf("call %d tells %+v", n, now)
		}
		mustBeNew(t, m, now)
		if !reflect.DeepEqual(wide(m), wide(was)) {
			t.Errorf("call %d turned what was handed in: %+v, was %+v", n, wide(m), wide(was))
		}
		if !slices.Equal(cells[:3], []uint8{api.KInt, api.KPtr, 99}) {
			t.Errorf("call %d turned the cells' kinds", n)
		}
	}
}

// P14.5: nothing is kept from call to call.
func TestAgain(t *testing.T) {
	m := some()
	for range 2 {
		mustCheck(t, bad(), api.ErrBad)
		mustNew(t, nil, 1, 1, 1, []uint8{api.KFn}, []api.Blk{{Site: 1, Type: 1, Depth: 1, Alive: true, Cells: []api.Val{function(0)}}}, api.OK)
		mustFree(t, m, pointer(1, 0), without(m, 1), api.OK)
		mustStore(t, m, pointer(1, 0), number(1), with(m, 1, 0, number(1)), api.OK)
		mustLoad(t, m, pointer(1, 0), number(5), api.OK)
		mustPop(t, m, 2, without(m, 4), api.OK)
	}
}
