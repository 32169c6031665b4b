package mach_test

import (
	"reflect"
	"slices"
	"testing"

	"fescue/api"
	"fescue/calc"
	"fescue/mach"
	"fescue/mem"
	"fescue/sound"
)

// chance is numbers that look mixed, and are the same in each run.
type chance uint64

func (c *chance) below(n int) int {
	*c = *c*6364136223846793005 + 1442695040888963407
	return int(uint64(*c) >> 33 % uint64(n))
}

// near is a number from 0 to below n, or, at times, one beside these.
func (c *chance) near(n int) int {
	if n == 0 || c.below(12) == 0 {
		return []int{-1, n, n + 1}[c.below(3)]
	}
	return c.below(n)
}

// program is one that is well formed, of three functions: blocks that go to each other in any way, with phis at their beginnings.
func (c *chance) program() api.Program {
	for {
		p := api.Program{Types: []api.Type{
			{Kind: api.KInt},
			{Kind: api.KFn},
			{Kind: api.KFn, Parts: []int{0}},
			{Kind: api.KFn, Parts: []int{0, 0, 0, 0}},
		}}
		for _, sig := range []int{1, c.below(3) + 1, c.below(3) + 1} {
			p.Funcs = append(p.Funcs, c.function(sig, len(p.Types[sig].Parts)))
		}
		if sound.Check(p) == api.OK {
			return p
		}
	}
}

// function is one of a few blocks, with some parameters.
func (c *chance) function(sig, params int) api.Func {
	f := api.Func{Sig: sig, Blocks: []api.Block{{Ins: slices.Repeat([]api.Ins{integer(1)}, c.below(3)+1), End: jump(1)}}}
	for n := c.below(4) + 2; len(f.Blocks) < n; {
		end := branch(0, c.below(n-1)+1, c.below(n-1)+1)
		if c.below(4) == 0 {
			end = back(0)
		}
		f.Blocks = append(f.Blocks, api.Block{End: end, Ins: slices.Repeat([]api.Ins{integer(2)}, c.below(5))})
	}
	first := params
	firsts := []int{}
	for _, b := range f.Blocks {
		firsts = append(firsts, first)
		first += len(b.Ins)
	}
	for to := 1; to < len(f.Blocks); to++ {
		for at := range c.below(len(f.Blocks[to].Ins) + 1) {
			f.Blocks[to].Ins[at] = c.phi(f, firsts, to)
		}
	}
	return f
}

// phi is one of a block: of each that goes there it has a register of that one, or a parameter, or one of the first block.
func (c *chance) phi(f api.Func, firsts []int, to int) api.Ins {
	x := api.Ins{Op: api.OpPhi}
	for k, b := range f.Blocks {
		if b.End.Kind == api.EndReturn || b.End.To != to && (b.End.Kind != api.EndBranch || b.End.Else != to) {
			continue
		}
		r := c.below(firsts[1])
		if n := len(b.Ins); n > 0 && c.below(3) > 0 {
			r = firsts[k] + c.below(n)
		}
		x.From, x.Args = append(x.From, k), append(x.Args, r)
	}
	return x
}

// value is one, mostly of m, and mostly one that may be.
func (c *chance) value(m api.Mach) api.Val {
	switch c.below(9) {
	case 0:
		return strange()[c.below(len(strange()))]
	case 1, 2:
		return ordinary()[c.below(len(ordinary()))]
	case 3, 4, 5:
		return number(int64(c.below(1000)))
	}
	if len(m.Mem) == 0 {
		return null()
	}
	k := c.below(len(m.Mem))
	return pointer(k+1, c.near(len(m.Mem[k].Cells)))
}

// stepped is m, in which something is that a step may bring: a block, or a cell's value, or what was read.
func (c *chance) stepped(m api.Mach) api.Mach {
	m = deep(m)
	m.Steps++
	switch c.below(4) {
	case 0:
		m.Mem, _, _ = mem.New(m.Mem, c.below(3), c.below(3), len(m.Frames), []uint8{api.KPtr, api.KInt, api.KFn}[:c.below(3)+1])
	case 1:
		m.Mem, _, _ = mem.New(m.Mem, c.below(3), c.below(3), 0, []uint8{api.KPtr, api.KPtr})
		m.Heaps++
	case 2:
		m.Events = append(m.Events, api.Event{Kind: api.EvRead, N: int64(m.Used)})
		m.Used++
	case 3:
		if now, e := mem.Store(m.Mem, c.value(m), c.value(m)); e == api.OK {
			m.Mem = now
		}
	}
	return m
}

// call is one of those that answer a machine.
type call struct {
	what string
	n    int
	v    api.Val
	args []api.Val
	into int
}

// call is one, mostly of what is there.
func (c *chance) call(p api.Program, m api.Mach) call {
	x := call{v: c.value(m)}
	top := m.Frames[len(m.Frames)-1]
	switch c.below(10) {
	case 0, 1, 2:
		x.what, x.n = "Set", c.near(len(top.Regs))
	case 3, 4, 5:
		x.what, x.n = "Enter", c.near(len(p.Funcs[top.Func].Blocks))
	case 6, 7:
		x.what, x.n, x.into = "Call", c.near(len(p.Funcs)), c.near(len(top.Regs))
		many := c.below(5)
		if x.n >= 0 && x.n < len(p.Funcs) && c.below(6) > 0 {
			many = len(p.Types[p.Funcs[x.n].Sig].Parts)
		}
		for range many {
			x.args = append(x.args, c.value(m))
		}
	case 8:
		x.what = "Return"
	case 9:
		x.what, x.n = "Trap", []int{-1, 0, 1, 144, 1000, 1001}[c.below(6)]
	}
	return x
}

// told is what mach tells.
func (x call) told(p api.Program, m api.Mach) (api.Mach, api.Errno) {
	switch x.what {
	case "Set":
		return mach.Set(m, x.n, x.v)
	case "Enter":
		return mach.Enter(p, m, x.n)
	case "Call":
		return mach.Call(p, m, x.n, x.args, x.into)
	case "Return":
		return mach.Return(m, x.v)
	}
	return mach.Trap(m, api.Errno(x.n))
}

// asked is what the chapter tells, of a machine that runs.
func (x call) asked(p api.Program, m api.Mach) (now api.Mach, e api.Errno) {
	now = deep(m)
	top := &now.Frames[len(now.Frames)-1]
	switch x.what {
	case "Set":
		if x.n < 0 || x.n >= len(top.Regs) || calc.Check(x.v) != api.OK {
			return api.Mach{}, api.ErrArg
		}
		top.Regs[x.n] = x.v
	case "Enter":
		if e := entered(p, m.Frames[len(m.Frames)-1], top, x.n); e != api.OK {
			return api.Mach{}, e
		}
	case "Call":
		if x.n < 0 || x.n >= len(p.Funcs) || x.into < 0 || x.into >= len(top.Regs) || len(x.args) != len(p.Types[p.Funcs[x.n].Sig].Parts) {
			return api.Mach{}, api.ErrArg
		}
		many := len(x.args)
		for _, b := range p.Funcs[x.n].Blocks {
			many += len(b.Ins)
		}
		for _, v := range x.args {
			if calc.Check(v) != api.OK {
				return api.Mach{}, api.ErrArg
			}
		}
		f := frame(x.n, many, x.args...)
		f.Into = x.into
		now.Frames = append(now.Frames, f)
	case "Return":
		return left(now, x.v)
	case "Trap":
		if x.n < 1 || x.n > 1000 {
			return api.Mach{}, api.ErrArg
		}
		return ended(now, api.Errno(x.n)), api.OK
	}
	return now, api.OK
}

// entered turns a frame into what it is behind the entry into a block; ahead is that frame as it was.
func entered(p api.Program, ahead api.Frame, now *api.Frame, block int) api.Errno {
	f := p.Funcs[ahead.Func]
	if block < 0 || block >= len(f.Blocks) {
		return api.ErrArg
	}
	r := len(p.Types[f.Sig].Parts)
	for _, b := range f.Blocks[:block] {
		r += len(b.Ins)
	}
	now.Block, now.At = block, 0
	none := false
	for _, x := range f.Blocks[block].Ins {
		if x.Op != api.OpPhi {
			break
		}
		beside := map[int]int{}
		for k, b := range x.From {
			beside[b] = x.Args[k]
		}
		from, there := beside[ahead.Block]
		if !there {
			return api.ErrArg
		}
		none = none || ahead.Regs[from] == unset()
		now.Regs[r+now.At] = ahead.Regs[from]
		now.At++
	}
	if none {
		return api.ErrNone
	}
	return api.OK
}

// left is m behind the return of v.
func left(m api.Mach, v api.Val) (api.Mach, api.Errno) {
	depth := len(m.Frames)
	if calc.Check(v) != api.OK || v.Block > len(m.Mem) || v.Block > 0 && v.At >= len(m.Mem[v.Block-1].Cells) {
		return api.Mach{}, api.ErrArg
	}
	if v.Block > 0 && m.Mem[v.Block-1].Depth == depth {
		return ended(m, api.TrapLife), api.OK
	}
	for k := range m.Mem {
		if m.Mem[k].Depth >= depth {
			m.Mem[k].Alive = false
		}
	}
	into := m.Frames[depth-1].Into
	m.Frames = m.Frames[:depth-1]
	if depth == 1 {
		m.State, m.Exit = api.StExit, v.N
		return m, api.OK
	}
	m.Frames[depth-2].Regs[into] = v
	return m, api.OK
}

// P15.2, P15.3: mixed calls of mixed programs, one behind the other, by the chapter's words.
func TestMixed(t *testing.T) {
	c := chance(1)
	well, seen := map[string]int{}, map[api.Errno]int{}
	for range 400 {
		p := c.program()
		m := begun(t, p)
		for range 60 {
			if c.below(4) == 0 {
				m = c.stepped(m)
			}
			x := c.call(p, m)
			want, told := x.asked(p, m)
			was := deep(m)
			now, e := x.told(p, m)
			must(t, x.what, now, e, want, told)
			if !equal(m, was) {
				t.Fatalf("%s turned what was handed in", x.what)
			}
			seen[e]++
			if e == api.OK {
				well[x.what]++
				seen[now.Trap]++
			}
			if e == api.OK && now.State == api.StRun {
				m = now
			}
			if t.Failed() {
				t.Fatalf("of %+v, at %+v", x, m)
			}
		}
	}
	for _, what := range []string{"Set", "Enter", "Call", "Return", "Trap"} {
		if well[what] < 200 {
			t.Errorf("%s was well %d times alone", what, well[what])
		}
	}
	for _, e := range []api.Errno{api.ErrArg, api.ErrNone, api.TrapLife} {
		if seen[e] < 100 {
			t.Errorf("%d was told %d times alone", e, seen[e])
		}
	}
}

// P15.5: behind a call, whatever is done in it, and a return, all frames are as they were, but for that one register.
func TestFollows(t *testing.T) {
	c := chance(2)
	for range 300 {
		p := c.program()
		m := begun(t, p)
		for range 4 {
			f, into := c.below(3), c.below(len(m.Frames[len(m.Frames)-1].Regs))
			v := number(int64(c.below(50)))
			args := slices.Repeat([]api.Val{v}, len(p.Types[p.Funcs[f].Sig].Parts))
			inner, e := mach.Call(p, m, f, args, into)
			if e != api.OK {
				t.Fatalf("Call tells %d", e)
			}
			for r, x := range args {
				mustReg(t, inner, r, x, api.OK)
			}
			outer := len(m.Frames)
			if !reflect.DeepEqual(inner.Frames[:outer], m.Frames) {
				t.Errorf("a call turned other frames: %+v, were %+v", inner.Frames, m.Frames)
			}
			inner = c.busied(t, p, inner)
			if !reflect.DeepEqual(inner.Frames[:outer], m.Frames) {
				t.Errorf("what is done on top turned other frames: %+v, were %+v", inner.Frames, m.Frames)
			}
			out, e := mach.Return(inner, v)
			if e != api.OK {
				t.Fatalf("Return tells %d", e)
			}
			want := with(m, outer-1, into, v)
			if !reflect.DeepEqual(out.Frames, want.Frames) {
				t.Errorf("behind a call and a return the frames are %+v, want %+v", out.Frames, want.Frames)
			}
			mustReg(t, out, into, v, api.OK)
			if c.below(2) > 0 {
				m = inner
			} else {
				m = out
			}
		}
	}
}

// busied is m behind some calls of its top frame, on which none stays.
func (c *chance) busied(t *testing.T, p api.Program, m api.Mach) api.Mach {
	t.Helper()
	deepness := len(m.Frames)
	for range 12 {
		x := c.call(p, m)
		if x.what == "Trap" || x.what == "Return" && len(m.Frames) == deepness {
			continue
		}
		if now, e := x.told(p, m); e == api.OK && now.State == api.StRun {
			m = now
		}
	}
	for len(m.Frames) > deepness {
		now, e := mach.Return(m, null())
		if e != api.OK {
			t.Fatalf("Return tells %d", e)
		}
		m = now
	}
	return m
}
