package dom_test

import (
	"fmt"
	"math"
	"reflect"
	"slices"
	"testing"

	"fescue/api"
	"fescue/dom"
	"fescue/shape"
)

const (
	least = math.MinInt
	most  = math.MaxInt
	none  = -9 // instead of the ruler next to a block that is not reached
)

func jump(to int) api.End          { return api.End{Kind: api.EndJump, To: to} }
func branch(to, other int) api.End { return api.End{Kind: api.EndBranch, To: to, Else: other} }
func giveBack() api.End            { return api.End{Kind: api.EndReturn} }

// block answers a block of instructions of these Ops that read register 0.
func block(end api.End, ops ...uint8) api.Block {
	b := api.Block{End: end}
	for _, op := range ops {
		x := api.Ins{Op: op}
		if op == api.OpPhi {
			x.Args, x.From = []int{0}, []int{0}
		}
		b.Ins = append(b.Ins, x)
	}
	return b
}

// function answers a function of blocks with these ends, the last one of which has an instruction.
func function(ends ...api.End) api.Func {
	var l []api.Block
	for _, x := range ends {
		l = append(l, block(x))
	}
	l[len(l)-1].Ins = []api.Ins{{Op: api.OpInt, N: 5}}
	return api.Func{Sig: 1, Blocks: l}
}

// program answers a program of these functions; the types 1 and 2 are those of functions of no, and of two parameters.
func program(l ...api.Func) api.Program {
	return api.Program{Types: []api.Type{{Kind: api.KInt}, {Kind: api.KFn}, {Kind: api.KFn, Parts: []int{0, 0}}}, Funcs: l}
}

// one answers a program of one function with these ends.
func one(ends ...api.End) api.Program { return program(function(ends...)) }

// first answers the ends of the document's first example.
func first() []api.End { return []api.End{branch(1, 2), jump(3), jump(3), giveBack()} }

// told is all that there is to tell of a function: of each block those that rule it, and what Next tells; what All tells.
type told struct {
	rulers    [][]int
	next, all []int
}

// same tells whether two are, a list that is nil being as one that is empty.
func (a told) same(b told) bool {
	return slices.EqualFunc(a.rulers, b.rulers, slices.Equal) && slices.Equal(a.next, b.next) && slices.Equal(a.all, b.all)
}

// answered answers what is told of a function; the errors of one block are to be all OK, or all ErrNone, with nothing beside these.
func answered(t *testing.T, p api.Program, f int) told {
	t.Helper()
	var a told
	for b := range p.Funcs[f].Blocks {
		next, e := dom.Next(p, f, b)
		if e != api.OK && (e != api.ErrNone || next != 0) {
			t.Fatalf("of %+v: Next of %d: %d, %d", p.Funcs[f], b, next, e)
		}
		if e == api.ErrNone {
			next = none
		}
		var rulers []int
		for k := range p.Funcs[f].Blocks {
			is, other := dom.Rules(p, f, k, b)
			if other != e || is && e != api.OK {
				t.Fatalf("of %+v: %d rules %d: %v, %d; Next tells %d", p.Funcs[f], k, b, is, other, e)
			}
			if is {
				rulers = append(rulers, k)
			}
		}
		a.next, a.rulers = append(a.next, next), append(a.rulers, rulers)
	}
	var e api.Errno
	if a.all, e = dom.All(p, f); e != api.OK {
		t.Fatalf("of %+v: All: %d", p.Funcs[f], e)
	}
	return a
}

// mustTell holds what is told of a function with these ends against the rulers next to its blocks, and that against what the document's words tell.
func mustTell(t *testing.T, what string, next []int, ends ...api.End) {
	t.Helper()
	a, m := answered(t, one(ends...), 0), modelled(ends)
	if !slices.Equal(a.next, next) || !a.same(m) {
		t.Errorf("%s: %+v; want %v, and by the words %+v", what, a, next, m)
	}
}

// nextOf tells where an end goes to.
func nextOf(x api.End) []int {
	switch x.Kind {
	case 1:
		return []int{x.To}
	case 2:
		return []int{x.To, x.Else}
	}
	return nil
}

// come answers which blocks can be come to from block 0 along ways that don't go through the block past; -1: along all.
func come(ends []api.End, past int) [api.MaxBlocks]bool {
	var is [api.MaxBlocks]bool
	for left := []int{0}; len(left) > 0; left = left[1:] {
		if b := left[0]; b != past && !is[b] {
			is[b] = true
			left = append(left, nextOf(ends[b])...)
		}
	}
	return is
}

// modelled tells all of a function with these ends by the document's words.
func modelled(ends []api.End) told {
	reached := come(ends, -1)
	a := told{rulers: make([][]int, len(ends))}
	for k := range ends {
		without := come(ends, k)
		for b := range ends {
			if reached[k] && reached[b] && !without[b] {
				a.rulers[b] = append(a.rulers[b], k)
			}
		}
	}
	for b := range ends {
		next := -1
		for _, k := range a.rulers[b] {
			ruled := func(other int) bool { return other == b || slices.Contains(a.rulers[k], other) }
			if k != b && !slices.ContainsFunc(a.rulers[b], func(other int) bool { return !ruled(other) }) {
				next = k
			}
		}
		a.all = append(a.all, next)
		if !reached[b] {
			next = none
		}
		a.next = append(a.next, next)
	}
	return a
}

// P10.1: the document's examples.
func TestExamples(t *testing.T) {
	mustTell(t, "the first one", []int{-1, 0, 0, 0}, first()...)
	if is, e := dom.Rules(one(first()...), 0, 1, 3); e != api.OK || is {
		t.Errorf("1 rules 3: %v, %d", is, e)
	}
	mustTell(t, "the other one", []int{-1, 0, 1, 1}, jump(1), branch(2, 3), jump(1), giveBack())
}

// P10.1: a function of one block.
func TestOneBlock(t *testing.T) {
	for what, end := range map[string]api.End{"a return": giveBack(), "a jump to itself": jump(0), "a branch to itself": branch(0, 0)} {
		mustTell(t, what, []int{-1}, end)
		if is, e := dom.Rules(one(end), 0, 0, 0); e != api.OK || !is {
			t.Errorf("%s: 0 rules 0: %v, %d", what, is, e)
		}
	}
}

// P10.1: rows of blocks; branches whose ways meet again, and such whose ways don't.
func TestBranches(t *testing.T) {
	mustTell(t, "a row", []int{-1, 0, 1, 2}, jump(1), jump(2), jump(3), giveBack())
	mustTell(t, "a row back", []int{-1, 2, 3, 0}, jump(3), giveBack(), jump(1), jump(2))
	mustTell(t, "a row of branches whose Else is their To", []int{-1, 0, 1}, branch(1, 1), branch(2, 2), giveBack())
	mustTell(t, "ways that don't meet", []int{-1, 0, 0, 1, 2}, branch(1, 2), jump(3), jump(4), giveBack(), giveBack())
	mustTell(t, "ways that meet at once", []int{-1, 0, 0}, branch(1, 2), jump(2), giveBack())
	mustTell(t, "ways that meet at the first branch", []int{-1, 0, 0}, branch(1, 2), giveBack(), jump(1))
	mustTell(t, "ways that meet far on", []int{-1, 0, 0, 1, 2, 0}, branch(1, 2), jump(3), jump(4), jump(5), jump(5), giveBack())
	mustTell(t, "a branch within a branch", []int{-1, 0, 0, 1, 1, 1, 0}, branch(1, 2), branch(3, 4), jump(6), jump(5), jump(5), jump(6), giveBack())
	mustTell(t, "a branch behind a branch", []int{-1, 0, 0, 0, 3, 3, 3}, branch(1, 2), jump(3), jump(3), branch(4, 5), jump(6), jump(6), giveBack())
	mustTell(t, "a way into a way", []int{-1, 0, 0, 1, 0}, branch(1, 2), branch(3, 4), jump(4), jump(4), giveBack())
	mustTell(t, "two that go across", []int{-1, 0, 0, 0, 0}, branch(1, 2), branch(3, 4), branch(3, 4), giveBack(), giveBack())
}

// P10.1: rounds of one block, of two and of many, one within another, and one that is come to at two of its blocks.
func TestRounds(t *testing.T) {
	mustTell(t, "of one", []int{-1, 0, 1}, jump(1), branch(1, 2), giveBack())
	mustTell(t, "of one, by the other branch", []int{-1, 0, 1}, jump(1), branch(2, 1), giveBack())
	mustTell(t, "of one, without an end", []int{-1, 0}, jump(1), jump(1))
	mustTell(t, "of two", []int{-1, 0, 1, 2}, jump(1), jump(2), branch(1, 3), giveBack())
	mustTell(t, "of many", []int{-1, 0, 1, 2, 3, 4}, jump(1), jump(2), jump(3), jump(4), branch(1, 5), giveBack())
	mustTell(t, "of many, with numbers that fall", []int{-1, 2, 3, 4, 0, 2}, jump(4), jump(4), branch(1, 5), jump(2), jump(3), giveBack())
	mustTell(t, "one within another", []int{-1, 0, 1, 2, 3}, jump(1), jump(2), branch(2, 3), branch(1, 4), giveBack())
	mustTell(t, "three within each other", []int{-1, 0, 1, 2, 3, 4, 5}, jump(1), jump(2), jump(3), branch(3, 4), branch(2, 5), branch(1, 6), giveBack())
	mustTell(t, "with a branch within", []int{-1, 0, 1, 1, 1, 4}, jump(1), branch(2, 3), jump(4), jump(4), branch(1, 5), giveBack())
	mustTell(t, "that share a block", []int{-1, 0, 1, 1}, jump(1), branch(2, 3), jump(1), jump(1))
	mustTell(t, "that is left in its midst", []int{-1, 0, 1, 2, 2}, jump(1), jump(2), branch(3, 4), jump(1), giveBack())
	mustTell(t, "that is come to at both of its blocks", []int{-1, 0, 0}, branch(1, 2), jump(2), jump(1))
	mustTell(t, "that is come to at two of three blocks", []int{-1, 0, 0, 2}, branch(1, 2), jump(2), jump(3), jump(1))
	mustTell(t, "that is come to at two, within a round", []int{-1, 0, 1, 1, 3}, jump(1), branch(2, 3), jump(3), branch(2, 4), branch(1, 4))
	mustTell(t, "that needs rounds of its own to be told", []int{-1, 0, 0, 0, 0, 0}, branch(5, 4), jump(2), branch(3, 1), jump(2), branch(3, 2), jump(1))
}

// P10.1: ways back to block 0, which nothing else rules.
func TestBackToFirst(t *testing.T) {
	mustTell(t, "of two", []int{-1, 0}, jump(1), jump(0))
	mustTell(t, "by a branch on, or to itself", []int{-1, 0}, branch(1, 0), giveBack())
	mustTell(t, "by a branch to itself, or on", []int{-1, 0}, branch(0, 1), branch(0, 0))
	mustTell(t, "from all", []int{-1, 0, 1, 1}, jump(1), branch(2, 3), branch(0, 3), jump(0))
	mustTell(t, "from one that is not reached", []int{-1, none, 0}, jump(2), jump(0), giveBack())
}

// P10.1: blocks that are not reached: none rules them, they rule none, and ways from them are no ways.
func TestNotReached(t *testing.T) {
	mustTell(t, "one that goes where another one goes to", []int{-1, none, 0, 2}, jump(2), jump(3), jump(3), giveBack())
	mustTell(t, "a round that goes to a round", []int{-1, none, none, 0, 3}, jump(3), jump(2), branch(1, 4), jump(4), jump(3))
	mustTell(t, "one that goes to itself", []int{-1, none}, giveBack(), jump(1))
	mustTell(t, "all but one", []int{-1, none, none, none}, giveBack(), branch(0, 2), jump(3), branch(0, 1))
	mustTell(t, "the last one", []int{-1, 0, none}, jump(1), giveBack(), branch(1, 0))
	p := one(jump(2), jump(3), jump(3), giveBack())
	for b, want := range map[int]api.Errno{0: api.OK, 1: api.ErrNone, 2: api.OK, 3: api.OK} {
		if is, e := dom.Rules(p, 0, 1, b); is || e != want {
			t.Errorf("one that is not reached rules %d: %v, %d; want %d", b, is, e, want)
		}
	}
	if l, e := dom.All(p, 0); e != api.OK || !slices.Equal(l, []int{-1, -1, 0, 2}) {
		t.Errorf("All = %v, %d", l, e)
	}
}

// mostOf answers sixteen ends: those that each tells, but a return of the last one.
func mostOf(each func(b int) api.End) []api.End {
	var l []api.End
	for b := range 15 {
		l = append(l, each(b))
	}
	return append(l, giveBack())
}

func row() []api.End { return mostOf(func(b int) api.End { return jump(b + 1) }) }

// fan answers a row each block of which goes to the last one, too.
func fan() []api.End { return mostOf(func(b int) api.End { return branch(b+1, 15) }) }

// tree answers a tree; its block 7 alone goes to only one.
func tree() []api.End {
	return mostOf(func(b int) api.End {
		if b == 7 {
			return jump(15)
		} else if b > 7 {
			return giveBack()
		}
		return branch(2*b+1, 2*b+2)
	})
}

// steps answers branches one behind another: each even block goes to the next two, each odd one to the next one.
func steps() []api.End {
	return mostOf(func(b int) api.End { return branch(b+1, min(b/2*2+2, 15)) })
}

// P10.1: functions of the most blocks: a row, one back, a tree, one whose last block's next ruler is far ahead, one that goes both ways, and branches one behind another.
func TestMostBlocks(t *testing.T) {
	back := mostOf(func(b int) api.End { return jump((b + 15) % 16) })
	back[15] = jump(14)
	mustTell(t, "a row", []int{-1, 0, 1, 2, 3, 4, 5, 6, 7, 8, 9, 10, 11, 12, 13, 14}, row()...)
	mustTell(t, "a row back", []int{-1, 2, 3, 4, 5, 6, 7, 8, 9, 10, 11, 12, 13, 14, 15, 0}, back...)
	mustTell(t, "a tree", []int{-1, 0, 0, 1, 1, 2, 2, 3, 3, 4, 4, 5, 5, 6, 6, 7}, tree()...)
	mustTell(t, "a fan", []int{-1, 0, 1, 2, 3, 4, 5, 6, 7, 8, 9, 10, 11, 12, 13, 0}, fan()...)
	both := mostOf(func(b int) api.End { return branch(b+1, (b+15)%16) })
	both[15] = jump(14)
	mustTell(t, "a row that is come to at both of its ends", []int{-1, 0, 0, 0, 0, 0, 0, 0, 0, 0, 0, 0, 0, 0, 0, 0}, both...)
	mustTell(t, "branches", []int{-1, 0, 0, 2, 2, 4, 4, 6, 6, 8, 8, 10, 10, 12, 12, 14}, steps()...)
	p := one(row()...)
	for a := range 16 {
		for b := range 16 {
			if is, e := dom.Rules(p, 0, a, b); e != api.OK || is != (a <= b) {
				t.Errorf("in a row %d rules %d: %v, %d", a, b, is, e)
			}
		}
	}
}

// P10.1: several functions of one program, each on its own.
func TestSeveral(t *testing.T) {
	ends := [][]api.End{fan(), first(), {giveBack()}, tree(), {jump(2), jump(0), jump(1), branch(3, 0)}, row(), {jump(0), jump(0)}, steps()}
	p := program()
	for _, l := range ends {
		p.Funcs = append(p.Funcs, function(l...))
	}
	for f, l := range ends {
		if a, m := answered(t, p, f), modelled(l); !a.same(m) {
			t.Errorf("the function %d: %+v; want %+v", f, a, m)
		}
	}
}

// sample answers a program of a function with two parameters, 0 and 1, a branch whose ways meet, a round of one block, and a block that is not reached; its instructions are 2, 3; 4, 5; none; 6, 7; 8; 9.
func sample() api.Program {
	return program(api.Func{Sig: 2, Blocks: []api.Block{
		block(branch(1, 2), api.OpInt, api.OpRead),
		block(jump(3), api.OpInt, api.OpPrint),
		block(jump(3)),
		block(branch(3, 4), api.OpPhi, api.OpAdd),
		block(giveBack(), api.OpStore),
		block(jump(3), api.OpInt),
	}}, function(first()...))
}

// P10.2: parameters; registers at places ahead of their instruction, at it and behind it; of blocks that rule the place's, of others, and of one that is not reached; of an instruction that answers nothing.
func TestSet(t *testing.T) {
	never := most
	for r, from := range [][5]int{ // of each block the first place at which the register is set
		{0, 0, 0, 0, 0},
		{0, 0, 0, 0, 0},
		{1, 0, 0, 0, 0},
		{2, 0, 0, 0, 0},
		{never, 1, never, never, never},
		{never, 2, never, never, never},
		{never, never, never, 1, 0},
		{never, never, never, 2, 0},
		{never, never, never, never, 1},
		{never, never, never, never, never},
	} {
		for b, begin := range from {
			for at := range len(sample().Funcs[0].Blocks[b].Ins) + 1 {
				if is, e := dom.Set(sample(), 0, r, b, at); e != api.OK || is != (at >= begin) {
					t.Errorf("%d at %d of %d: %v, %d", r, at, b, is, e)
				}
			}
		}
		for at := range 2 {
			if is, e := dom.Set(sample(), 0, r, 5, at); e != api.ErrNone || is {
				t.Errorf("%d at %d of what is not reached: %v, %d", r, at, is, e)
			}
		}
	}
}

// P10.2: a register of a block that a way back goes through is not set ahead of its instruction, nor in a block that is come to past it.
func TestSetInRounds(t *testing.T) {
	p := program(api.Func{Sig: 1, Blocks: []api.Block{
		block(branch(1, 2), api.OpInt),
		block(jump(2), api.OpInt),
		block(branch(1, 3), api.OpInt),
		block(branch(0, 3)),
	}})
	for r, want := range [][]bool{ // at 0 and 1 of the blocks 0, 1 and 2, and at 0 of 3
		{false, true, true, true, true, true, true},
		{false, false, false, true, false, false, false},
		{false, false, false, false, false, true, true},
	} {
		for k, set := range want {
			if is, e := dom.Set(p, 0, r, k/2, k%2); e != api.OK || is != set {
				t.Errorf("%d at %d of %d: %v, %d", r, k%2, k/2, is, e)
			}
		}
	}
}

// P10.2: a function of the most instructions, all in one block, and with eight in each of the most.
func TestSetMost(t *testing.T) {
	all := program(api.Func{Sig: 2, Blocks: []api.Block{{Ins: slices.Repeat([]api.Ins{{Op: api.OpRead}}, 128), End: giveBack()}}})
	row := program(api.Func{Sig: 2})
	for b := range 16 {
		row.Funcs[0].Blocks = append(row.Funcs[0].Blocks, api.Block{Ins: slices.Repeat([]api.Ins{{Op: api.OpRead}}, 8), End: jump(min(b+1, 15))})
	}
	for r := range 130 {
		for at := range 129 {
			is, e := dom.Set(all, 0, r, 0, at)
			if e != api.OK || is != (r < at+2) {
				t.Errorf("%d at %d: %v, %d", r, at, is, e)
			}
		}
		for b := range 16 {
			for at := range 9 {
				is, e := dom.Set(row, 0, r, b, at)
				if e != api.OK || is != (r < b*8+at+2) {
					t.Errorf("%d at %d of %d: %v, %d", r, at, b, is, e)
				}
			}
		}
	}
}

// setBy tells by ways, place by place, whether all to a place go through an instruction.
func setBy(l []api.Block, made, here [2]int) bool {
	begun := map[[2]int]bool{}
	for left := [][2]int{{0, 0}}; len(left) > 0; left = left[1:] {
		at := left[0]
		if begun[at] {
			continue
		}
		begun[at] = true
		if at[1] < len(l[at[0]].Ins) {
			if at != made {
				left = append(left, [2]int{at[0], at[1] + 1})
			}
			continue
		}
		for _, b := range nextOf(l[at[0]].End) {
			left = append(left, [2]int{b, 0})
		}
	}
	return !begun[here]
}

// mustSet holds of a function all registers at all places against what ways tell.
func mustSet(t *testing.T, p api.Program, f int) {
	t.Helper()
	l := p.Funcs[f].Blocks
	regs, _ := shape.Regs(p, f)
	for r := range regs {
		own, k, _ := shape.Place(p, f, r)
		for b := range l {
			_, unreached := dom.Next(p, f, b)
			for at := range len(l[b].Ins) + 1 {
				want := own < 0 || setBy(l, [2]int{own, k}, [2]int{b, at})
				if is, e := dom.Set(p, f, r, b, at); e != unreached || is != (want && e == api.OK) {
					t.Errorf("of %+v: %d at %d of %d: %v, %d; want %v", p.Funcs[f], r, at, b, is, e, want)
				}
			}
		}
	}
}

// mustRefuse holds what is told of a block, and of a place of it, that is not there: an error, and nothing beside it.
func mustRefuse(t *testing.T, what string, p api.Program, f, b int, want api.Errno) {
	t.Helper()
	if n, e := dom.Next(p, f, b); e != want || n != 0 {
		t.Errorf("%s: Next(%d, %d) = %d, %d; want %d", what, f, b, n, e, want)
	}
	for _, k := range []int{0, b, -1, most} {
		mustRefuseRules(t, what, p, f, k, b, want)
		mustRefuseSet(t, what, p, f, 0, b, k, want)
		mustRefuseSet(t, what, p, f, k, b, 0, want)
	}
}

func mustRefuseRules(t *testing.T, what string, p api.Program, f, a, b int, want api.Errno) {
	t.Helper()
	if is, e := dom.Rules(p, f, a, b); e != want || is {
		t.Errorf("%s: Rules(%d, %d, %d) = %v, %d; want %d", what, f, a, b, is, e, want)
	}
}

func mustRefuseSet(t *testing.T, what string, p api.Program, f, r, b, at int, want api.Errno) {
	t.Helper()
	if is, e := dom.Set(p, f, r, b, at); e != want || is {
		t.Errorf("%s: Set(%d, %d, %d, %d) = %v, %d; want %d", what, f, r, b, at, is, e, want)
	}
}

// mustRefuseFunc does so of a whole function.
func mustRefuseFunc(t *testing.T, what string, p api.Program, f int, want api.Errno) {
	t.Helper()
	for _, b := range []int{0, 1, -1, 16, least, most} {
		mustRefuse(t, what, p, f, b, want)
	}
	if l, e := dom.All(p, f); e != want || len(l) != 0 {
		t.Errorf("%s: All(%d) = %v, %d; want %d", what, f, l, e, want)
	}
}

// odd is numbers of nothing, beside those that are one past the last.
var odd = []int{-1, -2, least, least + 1, most, most - 1, 1 << 32, -1 << 32, 1 << 62}

// P10.1, P10.2: an f that is no function's number, with what may be there, and with what may not.
func TestNoFunction(t *testing.T) {
	eight := program(slices.Repeat([]api.Func{function(jump(0))}, 8)...)
	for _, f := range append(odd, 2, 3, 8, 16) {
		mustRefuseFunc(t, "of two functions", sample(), f, api.ErrArg)
	}
	mustRefuseFunc(t, "of one function", one(jump(0)), 1, api.ErrArg)
	mustRefuseFunc(t, "of eight functions", eight, 8, api.ErrArg)
	if n, e := dom.Next(eight, 7, 0); e != api.OK || n != -1 {
		t.Errorf("Next of the last function: %d, %d", n, e)
	}
}

// P10.1, P10.2: a block that is none of its function's, also if it is another one's, and also beside one that is not reached.
func TestNoBlock(t *testing.T) {
	p := program(function(first()...), sample().Funcs[0], function(jump(0)), function(row()...))
	for f, many := range []int{4, 6, 1, 16} {
		for _, k := range append(odd, many, many+1, -many, 16, 17) {
			mustRefuse(t, "no block", p, f, k, api.ErrArg)
			for b := range many {
				mustRefuseRules(t, "a ruler that is no block", p, f, k, b, api.ErrArg)
			}
		}
		for k := many; k < 16; k++ {
			mustRefuse(t, "another function's block", p, f, k, api.ErrArg)
			mustRefuseRules(t, "another function's block as a ruler", p, f, k, 0, api.ErrArg)
		}
		for b := range many {
			if is, e := dom.Rules(p, f, b, 0); e != api.OK || is != (b == 0) {
				t.Errorf("Rules(%d, %d, 0) = %v, %d", f, b, is, e)
			}
		}
	}
}

// P10.2: a register that is none of its function's, also if it is another one's; a place that is none of its block's; both, also of a block that is not reached.
func TestNoPlace(t *testing.T) {
	p := sample()
	for b, many := range []int{2, 2, 0, 2, 1, 1} {
		for _, k := range append(odd, many+1, many+2, 129) {
			for _, r := range append(odd, 0, 1, 9, 10) {
				mustRefuseSet(t, "no place", p, 0, r, b, k, api.ErrArg)
			}
		}
		for _, r := range append(odd, 10, 11, 130, 132, 133) {
			for _, at := range append(odd, 0, many, many+1) {
				mustRefuseSet(t, "no register", p, 0, r, b, at, api.ErrArg)
			}
		}
		if _, e := dom.Set(p, 0, 9, b, many); (e == api.OK) != (b < 5) {
			t.Errorf("the last place of %d: %d", b, e)
		}
	}
	for r := 1; r < 10; r++ {
		mustRefuseSet(t, "another function's register", p, 1, r, 0, 0, api.ErrArg)
	}
	if is, e := dom.Set(p, 1, 0, 3, 1); e != api.OK || !is {
		t.Errorf("the only register: %v, %d", is, e)
	}
}

// P10.1, P10.2: a block that is not reached, told last.
func TestNotReachedIsLast(t *testing.T) {
	p := sample()
	mustRefuseSet(t, "a block that is not reached", p, 0, 0, 5, 0, api.ErrNone)
	mustRefuseSet(t, "its own register, behind it", p, 0, 9, 5, 1, api.ErrNone)
	for a := range 6 {
		mustRefuseRules(t, "a block that is not reached", p, 0, a, 5, api.ErrNone)
	}
	for _, k := range append(odd, 6) {
		mustRefuseRules(t, "a ruler that is no block", p, 0, k, 5, api.ErrArg)
		mustRefuseSet(t, "a place that is not there", p, 0, 0, 5, k, api.ErrArg)
		mustRefuseRules(t, "no function", p, k, 0, 5, api.ErrArg)
		mustRefuseSet(t, "no function", p, k, 0, 5, 0, api.ErrArg)
	}
	if n, e := dom.Next(p, 0, 5); e != api.ErrNone || n != 0 {
		t.Errorf("Next of a block that is not reached: %d, %d", n, e)
	}
	if l, e := dom.All(p, 0); e != api.OK || !slices.Equal(l, []int{-1, 0, 0, 0, 3, -1}) {
		t.Errorf("All = %v, %d", l, e)
	}
}

// refused answers programs that shape refuses, by what is wrong of them, and the error.
func refused() (l []api.Program, want []api.Errno) {
	put := func(e api.Errno, turn func(p *api.Program)) {
		p := sample()
		turn(&p)
		l, want = append(l, p), append(want, e)
	}
	put(api.ErrShape, func(p *api.Program) { *p = api.Program{} })
	put(api.ErrShape, func(p *api.Program) { p.Funcs = nil })
	put(api.ErrShape, func(p *api.Program) { p.Funcs = slices.Repeat(p.Funcs, 5) })
	put(api.ErrMany, func(p *api.Program) { p.Types = make([]api.Type, 17) })
	put(api.ErrType, func(p *api.Program) { p.Types[0].Kind = 0 })
	put(api.ErrType, func(p *api.Program) { p.Types, p.Funcs = []api.Type{{Kind: 6}}, nil })
	put(api.ErrShape, func(p *api.Program) { p.Types = nil })
	put(api.ErrShape, func(p *api.Program) { p.Funcs[1].Sig = 0 })
	put(api.ErrShape, func(p *api.Program) { p.Funcs[0].Sig = -1 })
	for f := range 2 {
		put(api.ErrShape, func(p *api.Program) { p.Funcs[f].Blocks = nil })
		put(api.ErrShape, func(p *api.Program) { p.Funcs[f].Blocks = slices.Repeat(p.Funcs[f].Blocks[3:4], 17) })
		put(api.ErrShape, func(p *api.Program) { p.Funcs[f].Blocks[3].Ins[0].Op = 0 })
		put(api.ErrShape, func(p *api.Program) { p.Funcs[f].Blocks[1].Ins = make([]api.Ins, 129) })
		for _, end := range []api.End{{}, {Kind: 4}, jump(-1), jump(6), jump(most), branch(0, 6), branch(least, 0), {Kind: 3, A: 10}, {Kind: 3, To: 1}} {
			put(api.ErrShape, func(p *api.Program) { p.Funcs[f].Blocks[0].End = end })
		}
	}
	return l, want
}

// P10.1, P10.2: programs that shape refuses: its error ahead of all others.
func TestRefused(t *testing.T) {
	l, want := refused()
	for k, p := range l {
		if e := shape.Check(p); e != want[k] {
			t.Errorf("shape of %+v: %d; want %d", p, e, want[k])
		}
		for _, f := range []int{0, 1, 2, -1, 8, least, most} {
			mustRefuseFunc(t, fmt.Sprintf("refused %d", k), p, f, want[k])
		}
	}
}

// roomy answers l with room behind it that holds a mark.
func roomy[T any](l []T, mark T) []T {
	return append(slices.Clone(l), mark, mark)[:len(l)]
}

// wide answers p with room behind all its lists.
func wide(p api.Program) api.Program {
	p.Types = roomy(p.Types, api.Type{Kind: 77})
	p.Funcs = roomy(p.Funcs, api.Func{Sig: 77})
	for f := range p.Funcs {
		l := roomy(p.Funcs[f].Blocks, api.Block{End: api.End{Kind: 77}})
		for b := range l {
			l[b].Ins = roomy(l[b].Ins, api.Ins{Op: 77})
		}
		p.Funcs[f].Blocks = l
	}
	return p
}

// whole answers p in new memory, with what stands in the room behind its lists as part of them.
func whole(p api.Program) api.Program {
	p.Types, p.Funcs = p.Types[:cap(p.Types)], slices.Clone(p.Funcs[:cap(p.Funcs)])
	for f := range p.Funcs {
		l := p.Funcs[f].Blocks
		l = slices.Clone(l[:cap(l)])
		for b := range l {
			l[b].Ins = l[b].Ins[:cap(l[b].Ins)]
		}
		p.Funcs[f].Blocks = l
	}
	return shape.Twin(p)
}

// askAll asks of everything in p, and of what is not there.
func askAll(p api.Program) {
	for f := -1; f <= len(p.Funcs); f++ {
		dom.All(p, f)
		for b := -1; b <= 6; b++ {
			dom.Next(p, f, b)
			for k := -1; k <= 10; k++ {
				dom.Rules(p, f, k, b)
				dom.Set(p, f, k, b, 0)
				dom.Set(p, f, k, b, 1)
			}
		}
	}
}

// P10.3: what is handed in is only read, also behind the ends of its lists.
func TestOnlyRead(t *testing.T) {
	l, _ := refused()
	l = append(l, sample(), one(jump(0)), program(function(branch(3, 1), jump(2), branch(0, 2), giveBack(), jump(4)), function(first()...)))
	for _, p := range l {
		p = wide(p)
		held, all := shape.Twin(p), whole(p)
		askAll(p)
		if !reflect.DeepEqual(p, held) || !reflect.DeepEqual(whole(p), all) {
			t.Errorf("what was handed in, %+v, is %+v", held, p)
		}
	}
}

// P10.3: a list that is answered is new memory: two answers are apart, and apart from the program, behind their ends, too.
func TestNew(t *testing.T) {
	p := sample()
	held := shape.Twin(p)
	want := []int{-1, 0, 0, 0, 3, -1}
	all, _ := dom.All(p, 0)
	other, _ := dom.All(p, 0)
	for k := range all[:cap(all)] {
		all[:cap(all)][k] = 77
	}
	again, _ := dom.All(p, 0)
	if !slices.Equal(other, want) || !slices.Equal(again, want) || !reflect.DeepEqual(p, held) {
		t.Errorf("All is %v, and then %v, of %+v", other, again, p)
	}
	p.Funcs[0].Blocks[0].End = jump(3) // what was told stays as it is
	if !slices.Equal(again, want) {
		t.Errorf("what was told of All is %v", again)
	}
}

// laws holds what P10.4 promises of what is answered of blocks, and of nothing else.
func laws(t *testing.T, p api.Program, f int) {
	t.Helper()
	a := answered(t, p, f)
	rules := func(k, b int) bool { return slices.Contains(a.rulers[b], k) }
	wrong := func(what string, l ...int) { t.Errorf("of %+v: %s: %v", p.Funcs[f], what, l) }
	for b, rulers := range a.rulers {
		if a.next[b] == none {
			continue
		}
		if !rules(0, b) || !rules(b, b) {
			wrong("0, and itself, rule", b)
		}
		for _, k := range rulers {
			for other := range a.rulers {
				if rules(other, k) && !rules(other, b) {
					wrong("what rules one that rules", other, k, b)
				}
				if rules(other, b) && !rules(other, k) && !rules(k, other) {
					wrong("of two that rule one", other, k, b)
				}
			}
			if k != b && rules(b, k) {
				wrong("two that rule each other", k, b)
			}
			for _, pred := range nextTo(p.Funcs[f].Blocks, b) {
				if k != b && a.next[pred] != none && !rules(k, pred) {
					wrong("what rules a block, rules what goes to it", k, b, pred)
				}
			}
		}
		var row []int
		for k := b; k >= 0 && len(row) <= api.MaxBlocks; k = a.next[k] {
			row = append(row, k)
		}
		slices.Sort(row)
		if !slices.Equal(row, rulers) || a.all[b] != a.next[b] {
			wrong("one next to another", b)
		}
	}
}

// nextTo answers the blocks that go to b.
func nextTo(l []api.Block, b int) (preds []int) {
	for k := range l {
		if slices.Contains(nextOf(l[k].End), b) {
			preds = append(preds, k)
		}
	}
	return preds
}

// lawsOfPlaces holds that what is set at a place is set further on in its block.
func lawsOfPlaces(t *testing.T, p api.Program, f int) {
	t.Helper()
	regs, _ := shape.Regs(p, f)
	for r := range regs {
		for b, x := range p.Funcs[f].Blocks {
			was := false
			for at := range len(x.Ins) + 1 {
				is, _ := dom.Set(p, f, r, b, at)
				if was && !is {
					t.Errorf("of %+v: %d is not set any more at %d of %d", p.Funcs[f], r, at, b)
				}
				was = is
			}
		}
	}
}

// endsOf answers all ends of a block of a function of so many.
func endsOf(many int) []api.End {
	l := []api.End{giveBack()}
	for to := range many {
		l = append(l, jump(to))
		for other := range many {
			l = append(l, branch(to, other))
		}
	}
	return l
}

// P10.1, P10.4: all functions of up to three blocks.
func TestAllSmall(t *testing.T) {
	for many := 1; many <= 3; many++ {
		choices := endsOf(many)
		ends := make([]api.End, many)
		var put func(b int)
		put = func(b int) {
			if b == many {
				if a, m := answered(t, one(ends...), 0), modelled(ends); !a.same(m) {
					t.Errorf("of %+v: %+v; want %+v", ends, a, m)
				}
				laws(t, one(ends...), 0)
				return
			}
			for _, x := range choices {
				ends[b] = x
				put(b + 1)
			}
		}
		put(0)
	}
}

// chance is numbers that come out alike each time.
type chance uint64

func (c *chance) next(below int) int {
	*c = *c*6364136223846793005 + 1442695040888963407
	return int((uint64(*c) >> 33) % uint64(below))
}

// ends answers the ends of a function of so many blocks: with few returns it is reached far, with few branches it is long.
func (c *chance) ends(many int) []api.End {
	returns, branches := 1+c.next(8), 1+c.next(4)
	l := make([]api.End, many)
	for b := range l {
		switch {
		case c.next(returns) == 0 && c.next(2) == 0:
			l[b] = giveBack()
		case c.next(branches) == 0:
			l[b] = jump(c.next(many))
		default:
			l[b] = branch(c.next(many), c.next(many))
		}
	}
	return l
}

// P10.1, P10.4: functions by the thousand, of up to the most blocks, several in a program.
func TestMixed(t *testing.T) {
	c := chance(10)
	for range 500 {
		var all [][]api.End
		var l []api.Func
		for range 1 + c.next(4) {
			ends := c.ends(1 + c.next(api.MaxBlocks))
			all, l = append(all, ends), append(l, function(ends...))
		}
		p := program(l...)
		for f, ends := range all {
			if a, m := answered(t, p, f), modelled(ends); !a.same(m) {
				t.Errorf("of %+v: %+v; want %+v", ends, a, m)
			}
			laws(t, p, f)
		}
	}
}

// P10.2, P10.4: functions by the hundred, with instructions of all kinds in their blocks, and with parameters.
func TestMixedPlaces(t *testing.T) {
	c := chance(11)
	ops := []uint8{api.OpInt, api.OpRead, api.OpPrint, api.OpStore, api.OpPhi, api.OpCall, api.OpFree, api.OpNew}
	for range 150 {
		p := program()
		for f := range 2 {
			var l []api.Block
			for _, x := range c.ends(1 + c.next(8)) {
				b := block(x)
				for range c.next(4) {
					b.Ins = append(b.Ins, block(x, ops[c.next(len(ops))]).Ins...)
				}
				l = append(l, b)
			}
			l[0].Ins = append(l[0].Ins, api.Ins{Op: api.OpInt}) // there is a register 0
			p.Funcs = append(p.Funcs, api.Func{Sig: 1 + f, Blocks: l})
		}
		for f := range 2 {
			mustSet(t, p, f)
			lawsOfPlaces(t, p, f)
		}
	}
	mustSet(t, sample(), 0)
	mustSet(t, sample(), 1)
}

// P1: nothing is kept from call to call, whatever is asked between; each call ends, also of lists that are far too long.
func TestAgain(t *testing.T) {
	before := answered(t, sample(), 0)
	for range 3 {
		askAll(one(slices.Repeat([]api.End{branch(1, 0)}, 16)...))
		mustRefuse(t, "the sample", sample(), 0, 6, api.ErrArg)
		mustRefuseFunc(t, "no program", api.Program{}, 0, api.ErrShape)
		if again := answered(t, sample(), 0); !again.same(before) {
			t.Errorf("%+v, and then %+v", before, again)
		}
	}
	p := sample()
	p.Funcs[0].Blocks = make([]api.Block, 1_000_000)
	mustRefuseFunc(t, "too many blocks", p, 0, api.ErrShape)
	p.Funcs = make([]api.Func, 1_000_000)
	mustRefuseFunc(t, "too many functions", p, 999_999, api.ErrShape)
	p.Types = make([]api.Type, 1_000_000)
	mustRefuseFunc(t, "too many types", p, 0, api.ErrMany)
}
