package flow_test

import (
	"fmt"
	"math"
	"reflect"
	"slices"
	"testing"

	"fescue/api"
	"fescue/flow"
	"fescue/shape"
)

const (
	least = math.MinInt
	most  = math.MaxInt
)

func jump(to int) api.End          { return api.End{Kind: api.EndJump, To: to} }
func branch(to, other int) api.End { return api.End{Kind: api.EndBranch, To: to, Else: other} }
func giveBack() api.End            { return api.End{Kind: api.EndReturn} }

// function answers a function of blocks with these ends, the last one of which has an instruction.
func function(ends ...api.End) api.Func {
	var l []api.Block
	for _, x := range ends {
		l = append(l, api.Block{End: x})
	}
	l[len(l)-1].Ins = []api.Ins{{Op: api.OpInt, N: 5}}
	return api.Func{Sig: 1, Blocks: l}
}

// program answers a program of these functions.
func program(l ...api.Func) api.Program {
	return api.Program{Types: []api.Type{{Kind: api.KInt}, {Kind: api.KFn}}, Funcs: l}
}

// one answers a program of one function with these ends.
func one(ends ...api.End) api.Program { return program(function(ends...)) }

// example answers the ends of the document's example.
func example() []api.End { return []api.End{branch(1, 2), jump(0), giveBack()} }

// told is all that there is to tell of a function: of each block those that it goes to, and those that go to it; those that are reached, in both orders; those that lie on a round.
type told struct {
	next, preds         [][]int
	reach, order, round []int
}

// same tells whether two lists are, one that is nil being as one that is empty.
func (a told) same(b told) bool {
	return slices.EqualFunc(a.next, b.next, slices.Equal) && slices.EqualFunc(a.preds, b.preds, slices.Equal) &&
		slices.Equal(a.reach, b.reach) && slices.Equal(a.order, b.order) && slices.Equal(a.round, b.round)
}

// answered answers what is told of a function, all errors of which are to be OK.
func answered(t *testing.T, p api.Program, f int) told {
	t.Helper()
	var a told
	well := func(e api.Errno) {
		t.Helper()
		if e != api.OK {
			t.Fatalf("of %+v: %d", p.Funcs[f], e)
		}
	}
	for b := range p.Funcs[f].Blocks {
		next, e := flow.Next(p, f, b)
		well(e)
		preds, e := flow.Preds(p, f, b)
		well(e)
		round, e := flow.Round(p, f, b)
		well(e)
		a.next, a.preds = append(a.next, next), append(a.preds, preds)
		if round {
			a.round = append(a.round, b)
		}
	}
	var e api.Errno
	a.reach, e = flow.Reach(p, f)
	well(e)
	a.order, e = flow.Order(p, f)
	well(e)
	return a
}

// mustTell holds what is told of a function with these ends against what is wanted, and so what the document's words tell.
func mustTell(t *testing.T, what string, want told, ends ...api.End) {
	t.Helper()
	if a := answered(t, one(ends...), 0); !a.same(want) {
		t.Errorf("%s: %+v; want %+v", what, a, want)
	}
	if m := modelled(ends); !m.same(want) {
		t.Errorf("%s, by the words: %+v; want %+v", what, m, want)
	}
}

// nextOf tells by the document's words where an end goes to.
func nextOf(x api.End) []int {
	switch x.Kind {
	case 1:
		return []int{x.To}
	case 2:
		if x.Else == x.To {
			return []int{x.To}
		}
		return []int{x.To, x.Else}
	}
	return nil
}

// matrix answers which blocks can be come to from where each one goes to.
func matrix(ends []api.End) [][]bool {
	m := make([][]bool, len(ends))
	for b, x := range ends {
		m[b] = make([]bool, len(ends))
		for _, k := range nextOf(x) {
			m[b][k] = true
		}
	}
	for over := range ends {
		for a := range ends {
			for b := range ends {
				m[a][b] = m[a][b] || m[a][over] && m[over][b]
			}
		}
	}
	return m
}

// orderOf answers the order, by a stack of blocks under way, each with those that it still has to look at.
func orderOf(ends []api.End) []int {
	type under struct {
		block int
		left  []int
	}
	var order []int
	var begun [64]bool
	begun[0] = true
	stack := []under{{0, nextOf(ends[0])}}
	for len(stack) > 0 {
		last := &stack[len(stack)-1]
		if len(last.left) == 0 {
			order = append([]int{last.block}, order...)
			stack = stack[:len(stack)-1]
			continue
		}
		b := last.left[0]
		last.left = last.left[1:]
		if !begun[b] {
			begun[b] = true
			stack = append(stack, under{b, nextOf(ends[b])})
		}
	}
	return order
}

// modelled tells all of a function with these ends by the document's words.
func modelled(ends []api.End) told {
	m := matrix(ends)
	a := told{next: make([][]int, len(ends)), preds: make([][]int, len(ends)), order: orderOf(ends)}
	for b, x := range ends {
		a.next[b] = nextOf(x)
		for _, k := range a.next[b] {
			a.preds[k] = append(a.preds[k], b)
		}
		if b == 0 || m[0][b] {
			a.reach = append(a.reach, b)
		}
		if m[b][b] {
			a.round = append(a.round, b)
		}
	}
	return a
}

// P9.1, P9.2: the document's example.
func TestExample(t *testing.T) {
	mustTell(t, "the example", told{
		next: [][]int{{1, 2}, {0}, {}}, preds: [][]int{{1}, {0}, {0}},
		reach: []int{0, 1, 2}, order: []int{0, 2, 1}, round: []int{0, 1},
	}, example()...)
}

// P9.1, P9.2: a function of one block.
func TestOneBlock(t *testing.T) {
	alone := told{next: [][]int{{}}, preds: [][]int{{}}, reach: []int{0}, order: []int{0}}
	mustTell(t, "a return", alone, giveBack())
	alone.next, alone.preds, alone.round = [][]int{{0}}, [][]int{{0}}, []int{0}
	mustTell(t, "a jump to itself", alone, jump(0))
	mustTell(t, "a branch to itself", alone, branch(0, 0))
}

// P9.1: each end, to the next block, back, to itself, and to one block twice.
func TestEnds(t *testing.T) {
	for _, c := range []struct {
		what  string
		end   api.End // of block 1, of 4
		next  []int
		preds [4][]int
	}{
		{"a jump on", jump(2), []int{2}, [4][]int{{}, {0}, {1, 3}, {2}}},
		{"a jump back", jump(0), []int{0}, [4][]int{{1}, {0}, {3}, {2}}},
		{"a jump to itself", jump(1), []int{1}, [4][]int{{}, {0, 1}, {3}, {2}}},
		{"a branch to two, rising", branch(2, 3), []int{2, 3}, [4][]int{{}, {0}, {1, 3}, {1, 2}}},
		{"a branch to two, falling", branch(3, 2), []int{3, 2}, [4][]int{{}, {0}, {1, 3}, {1, 2}}},
		{"a branch to one twice", branch(3, 3), []int{3}, [4][]int{{}, {0}, {3}, {1, 2}}},
		{"a branch to 0 twice", branch(0, 0), []int{0}, [4][]int{{1}, {0}, {3}, {2}}},
		{"a branch to 0, or on", branch(0, 2), []int{0, 2}, [4][]int{{1}, {0}, {1, 3}, {2}}},
		{"a branch on, or to 0", branch(2, 0), []int{2, 0}, [4][]int{{1}, {0}, {1, 3}, {2}}},
		{"a branch to itself, or on", branch(1, 2), []int{1, 2}, [4][]int{{}, {0, 1}, {1, 3}, {2}}},
		{"a branch on, or to itself", branch(2, 1), []int{2, 1}, [4][]int{{}, {0, 1}, {1, 3}, {2}}},
		{"a branch to itself alone", branch(1, 1), []int{1}, [4][]int{{}, {0, 1}, {3}, {2}}},
		{"a return", giveBack(), nil, [4][]int{{}, {0}, {3}, {2}}},
	} {
		p := one(jump(1), c.end, jump(3), jump(2))
		if l, e := flow.Next(p, 0, 1); e != api.OK || !slices.Equal(l, c.next) {
			t.Errorf("%s: Next = %v, %d; want %v", c.what, l, e, c.next)
		}
		for b, want := range c.preds {
			if l, e := flow.Preds(p, 0, b); e != api.OK || !slices.Equal(l, want) {
				t.Errorf("%s: Preds of %d = %v, %d; want %v", c.what, b, l, e, want)
			}
		}
	}
}

// P9.1: what an end reads does not turn where it goes to.
func TestRegisterOfEnd(t *testing.T) {
	p := one(branch(2, 1), jump(2), giveBack())
	p.Funcs[0].Blocks[0].Ins = make([]api.Ins, 4)
	for k := range 4 {
		p.Funcs[0].Blocks[0].Ins[k].Op = api.OpRead
	}
	for a := range 5 {
		p.Funcs[0].Blocks[0].End.A = a
		p.Funcs[0].Blocks[2].End.A = a
		if a := answered(t, p, 0); !a.same(modelled([]api.End{branch(2, 1), jump(2), giveBack()})) {
			t.Errorf("with another register: %+v", a)
		}
	}
}

// P9.1: a block that two branches of one block, or several blocks, go to: each of these once, rising.
func TestPreds(t *testing.T) {
	p := one(branch(3, 1), branch(3, 3), branch(4, 3), jump(3), branch(2, 3), giveBack())
	for b, want := range [][]int{{}, {0}, {4}, {0, 1, 2, 3, 4}, {2}, {}} {
		if l, e := flow.Preds(p, 0, b); e != api.OK || !slices.Equal(l, want) {
			t.Errorf("Preds of %d = %v, %d; want %v", b, l, e, want)
		}
	}
	ends := slices.Repeat([]api.End{branch(9, 9)}, 16)
	all := []int{0, 1, 2, 3, 4, 5, 6, 7, 8, 9, 10, 11, 12, 13, 14, 15}
	for b := range 16 {
		want := all
		if b != 9 {
			want = nil
		}
		if l, e := flow.Preds(one(ends...), 0, b); e != api.OK || !slices.Equal(l, want) {
			t.Errorf("all go to 9: Preds of %d = %v, %d", b, l, e)
		}
	}
}

// P9.2: blocks that are not reached: they go to others, others don't come to them; they may go round.
func TestNotReached(t *testing.T) {
	mustTell(t, "one that no one goes to", told{
		next: [][]int{{2}, {2}, {}}, preds: [][]int{{}, {}, {0, 1}},
		reach: []int{0, 2}, order: []int{0, 2},
	}, jump(2), jump(2), giveBack())
	mustTell(t, "one that only such ones go to", told{
		next: [][]int{{}, {2}, {3}, {}}, preds: [][]int{{}, {}, {1}, {2}},
		reach: []int{0}, order: []int{0},
	}, giveBack(), jump(2), jump(3), giveBack())
	mustTell(t, "a round of them, that goes to one that is reached", told{
		next: [][]int{{3}, {2}, {1, 3}, {}}, preds: [][]int{{}, {2}, {1}, {0, 2}},
		reach: []int{0, 3}, order: []int{0, 3}, round: []int{1, 2},
	}, jump(3), jump(2), branch(1, 3), giveBack())
	mustTell(t, "one that goes to itself, and one that goes there", told{
		next: [][]int{{}, {1}, {1}}, preds: [][]int{{}, {1, 2}, {}},
		reach: []int{0}, order: []int{0}, round: []int{1},
	}, giveBack(), jump(1), jump(1))
	mustTell(t, "one that goes to block 0", told{
		next: [][]int{{2}, {0}, {0}}, preds: [][]int{{1, 2}, {}, {0}},
		reach: []int{0, 2}, order: []int{0, 2}, round: []int{0, 2},
	}, jump(2), jump(0), branch(0, 0))
}

// P9.2: rounds of one block, of two and of many, within another, two that share a block, and what goes to, or comes from, one.
func TestRounds(t *testing.T) {
	for _, c := range []struct {
		what string
		want []int
		ends []api.End
	}{
		{"none", nil, []api.End{branch(1, 2), jump(3), jump(3), giveBack()}},
		{"of one", []int{1}, []api.End{jump(1), branch(1, 2), giveBack()}},
		{"of one, by the other branch", []int{1}, []api.End{jump(1), branch(2, 1), giveBack()}},
		{"of two", []int{1, 2}, []api.End{jump(1), branch(2, 3), jump(1), giveBack()}},
		{"of two, that begin behind", []int{1, 3}, []api.End{jump(3), branch(3, 2), giveBack(), jump(1)}},
		{"of all", []int{0, 1, 2, 3, 4}, []api.End{jump(3), jump(0), jump(4), jump(2), jump(1)}},
		{"one within another", []int{1, 2, 3}, []api.End{jump(1), jump(2), branch(2, 3), branch(1, 4), giveBack()}},
		{"two within one another", []int{1, 2, 3, 4}, []api.End{jump(1), jump(2), jump(3), branch(2, 4), branch(1, 5), giveBack()}},
		{"two that share a block", []int{1, 2, 3}, []api.End{jump(1), branch(2, 3), jump(1), jump(1)}},
		{"one behind another", []int{1, 3}, []api.End{jump(1), branch(1, 2), jump(3), branch(3, 4), giveBack()}},
		{"one between two ends of blocks that don't lie on it", []int{2, 3}, []api.End{jump(1), jump(2), branch(3, 4), jump(2), giveBack()}},
		{"one that is not reached", []int{1, 2}, []api.End{giveBack(), jump(2), branch(1, 0)}},
	} {
		for b := range c.ends {
			is, e := flow.Round(one(c.ends...), 0, b)
			if e != api.OK || is != slices.Contains(c.want, b) {
				t.Errorf("%s: Round of %d = %v, %d", c.what, b, is, e)
			}
		}
		if m := modelled(c.ends); !slices.Equal(m.round, c.want) {
			t.Errorf("%s, by the words: %v", c.what, m.round)
		}
	}
}

// P9.2: the order, where a block can be come to in more ways than one.
func TestOrder(t *testing.T) {
	for _, c := range []struct {
		what string
		want []int
		ends []api.End
	}{
		{"two that come together", []int{0, 2, 1, 3}, []api.End{branch(1, 2), jump(3), jump(3), giveBack()}},
		{"the same, the other way round", []int{0, 1, 2, 3}, []api.End{branch(2, 1), jump(3), jump(3), giveBack()}},
		{"the other one is begun by the first one", []int{0, 1, 2}, []api.End{branch(1, 2), jump(2), giveBack()}},
		{"the first one is gone to by the other one", []int{0, 2, 1}, []api.End{branch(1, 2), giveBack(), jump(1)}},
		{"the first one is begun already", []int{0, 1, 2, 3}, []api.End{jump(1), jump(2), branch(1, 3), giveBack()}},
		{"the other one is begun already", []int{0, 1, 2, 3}, []api.End{jump(1), jump(2), branch(3, 1), giveBack()}},
		{"both are begun already", []int{0, 1, 2}, []api.End{jump(1), jump(2), branch(0, 1)}},
		{"the first one is behind already", []int{0, 2, 3, 1}, []api.End{branch(1, 2), giveBack(), branch(1, 3), giveBack()}},
		{"the other one is behind already", []int{0, 2, 3, 1}, []api.End{branch(1, 2), giveBack(), branch(3, 1), giveBack()}},
		{"a branch to one twice", []int{0, 2, 1}, []api.End{branch(2, 2), giveBack(), jump(1)}},
		{"a round first", []int{0, 3, 1, 2}, []api.End{branch(1, 3), jump(2), jump(1), giveBack()}},
		{"a round behind", []int{0, 1, 2, 3}, []api.End{branch(3, 1), jump(2), jump(1), giveBack()}},
		{"a round of two ways in", []int{0, 1, 2}, []api.End{branch(1, 2), jump(2), jump(1)}},
		{"blocks that are far off", []int{0, 4, 2, 1, 3}, []api.End{jump(4), jump(3), jump(1), giveBack(), jump(2)}},
		{"one that only the last one goes to", []int{0, 1, 3, 4, 2}, []api.End{branch(2, 1), branch(2, 3), giveBack(), jump(4), giveBack()}},
		{"blocks that are not reached", []int{0, 3, 4}, []api.End{jump(3), jump(2), jump(3), jump(4), giveBack(), jump(0)}},
	} {
		l, e := flow.Order(one(c.ends...), 0)
		if e != api.OK || !slices.Equal(l, c.want) {
			t.Errorf("%s: Order = %v, %d; want %v", c.what, l, e, c.want)
		}
		rising := slices.Sorted(slices.Values(c.want))
		if l, e := flow.Reach(one(c.ends...), 0); e != api.OK || !slices.Equal(l, rising) {
			t.Errorf("%s: Reach = %v, %d; want %v", c.what, l, e, rising)
		}
		if l := orderOf(c.ends); !slices.Equal(l, c.want) {
			t.Errorf("%s, by the words: %v; want %v", c.what, l, c.want)
		}
	}
}

// P9.1, P9.2: a function of the most blocks, in a row, back along it, and in a tree.
func TestMostBlocks(t *testing.T) {
	var row, back, tree []api.End
	for b := range 15 {
		row, back = append(row, jump(b+1)), append(back, jump((b+15)%16))
	}
	row, back = append(row, giveBack()), append(back, jump(14))
	for b := range 16 {
		if b < 7 {
			tree = append(tree, branch(2*b+1, 2*b+2))
		} else if b == 7 {
			tree = append(tree, jump(15))
		} else {
			tree = append(tree, giveBack())
		}
	}
	all := []int{0, 1, 2, 3, 4, 5, 6, 7, 8, 9, 10, 11, 12, 13, 14, 15}
	backward := []int{0, 15, 14, 13, 12, 11, 10, 9, 8, 7, 6, 5, 4, 3, 2, 1}
	for _, c := range []struct {
		what               string
		ends               []api.End
		order, round       []int
		next0, next7, last []int
	}{
		{"a row", row, all, nil, []int{1}, []int{8}, []int{14}},
		{"a row back", back, backward, all, []int{15}, []int{6}, []int{0}},
		{"a tree", tree, []int{0, 2, 6, 14, 13, 5, 12, 11, 1, 4, 10, 9, 3, 8, 7, 15}, nil, []int{1, 2}, []int{15}, []int{7}},
	} {
		a := answered(t, one(c.ends...), 0)
		if !slices.Equal(a.order, c.order) || !slices.Equal(a.reach, all) || !slices.Equal(a.round, c.round) ||
			!slices.Equal(a.next[0], c.next0) || !slices.Equal(a.next[7], c.next7) || !slices.Equal(a.preds[15], c.last) {
			t.Errorf("%s: %+v", c.what, a)
		}
		if m := modelled(c.ends); !a.same(m) {
			t.Errorf("%s: %+v; by the words %+v", c.what, a, m)
		}
	}
}

// P9.1, P9.2: several functions of one program, each on its own, with blocks full of instructions, and with parameters.
func TestSeveral(t *testing.T) {
	all := [][]api.End{
		example(), {jump(0)}, {jump(2), jump(1), giveBack()}, {branch(0, 3), jump(2), jump(1), giveBack()},
		slices.Repeat([]api.End{branch(15, 0)}, 16), {giveBack()}, {branch(2, 1), giveBack(), jump(1), jump(0)}, {jump(1), branch(1, 0)},
	}
	p := program()
	p.Types = append(p.Types, api.Type{Kind: api.KPtr}, api.Type{Kind: api.KFn, Parts: []int{0, 2, 0, 1}})
	for k, ends := range all {
		f := function(ends...)
		f.Sig = 1 + k%2*2
		f.Blocks[0].Ins = slices.Repeat([]api.Ins{
			{Op: api.OpCall, N: 3, Args: []int{0, 0, 0, 0}}, {Op: api.OpPhi, Args: []int{0, 0}, From: []int{0, 0}}, {Op: api.OpStore}, {Op: api.OpFn, N: 7},
		}, 31)
		p.Funcs = append(p.Funcs, f)
	}
	for f, ends := range all {
		if a, want := answered(t, p, f), modelled(ends); !a.same(want) {
			t.Errorf("the function %d: %+v; want %+v", f, a, want)
		}
	}
}

// mustRefuse holds what is told of what is not there: an error, and nothing beside it.
func mustRefuse(t *testing.T, what string, p api.Program, f, b int, want api.Errno) {
	t.Helper()
	if l, e := flow.Next(p, f, b); e != want || len(l) != 0 {
		t.Errorf("%s: Next(%d, %d) = %v, %d; want %d", what, f, b, l, e, want)
	}
	if l, e := flow.Preds(p, f, b); e != want || len(l) != 0 {
		t.Errorf("%s: Preds(%d, %d) = %v, %d; want %d", what, f, b, l, e, want)
	}
	if is, e := flow.Round(p, f, b); e != want || is {
		t.Errorf("%s: Round(%d, %d) = %v, %d; want %d", what, f, b, is, e, want)
	}
}

// mustRefuseFunc does so of a whole function, too.
func mustRefuseFunc(t *testing.T, what string, p api.Program, f int, want api.Errno) {
	t.Helper()
	for _, b := range []int{0, 1, -1, 16, least, most} {
		mustRefuse(t, what, p, f, b, want)
	}
	if l, e := flow.Reach(p, f); e != want || len(l) != 0 {
		t.Errorf("%s: Reach(%d) = %v, %d; want %d", what, f, l, e, want)
	}
	if l, e := flow.Order(p, f); e != want || len(l) != 0 {
		t.Errorf("%s: Order(%d) = %v, %d; want %d", what, f, l, e, want)
	}
}

// P9.1, P9.2: an f that is no function's number, with a b that may be one's, and with one that may not.
func TestNoFunction(t *testing.T) {
	two := program(function(example()...), function(jump(0)))
	eight := program(slices.Repeat([]api.Func{function(jump(0))}, 8)...)
	for _, f := range []int{-1, 2, 3, 8, 16, -2, least, most, least + 1, most - 1, 1 << 32, -1 << 32} {
		mustRefuseFunc(t, "of two functions", two, f, api.ErrArg)
	}
	mustRefuseFunc(t, "of one function", one(example()...), 1, api.ErrArg)
	mustRefuseFunc(t, "of eight functions", eight, 8, api.ErrArg)
	if l, e := flow.Next(eight, 7, 0); e != api.OK || !slices.Equal(l, []int{0}) {
		t.Errorf("Next of the last function: %v, %d", l, e)
	}
	if l, e := flow.Order(eight, 7); e != api.OK || !slices.Equal(l, []int{0}) {
		t.Errorf("Order of the last function: %v, %d", l, e)
	}
}

// P9.1, P9.2: a b that is none of its function's blocks, also if another function has such a one; all would lie on a round.
func TestNoBlock(t *testing.T) {
	p := program(function(jump(0)), function(slices.Repeat([]api.End{jump(0)}, 16)...), function(jump(1), branch(1, 0), jump(0)))
	for f, many := range []int{1, 16, 3} {
		for _, b := range []int{-1, many, many + 1, -2, -many, 16, 17, least, most, 1 << 32, -1 << 32} {
			mustRefuse(t, "no block", p, f, b, api.ErrArg)
		}
		for b := range 16 {
			if b >= many {
				mustRefuse(t, "another function's block", p, f, b, api.ErrArg)
			} else if _, e := flow.Preds(p, f, b); e != api.OK {
				t.Errorf("Preds(%d, %d): %d", f, b, e)
			}
		}
	}
}

// refused answers programs that shape refuses, by what is wrong of them, and the error.
func refused() (l []api.Program, want []api.Errno) {
	put := func(e api.Errno, turn func(p *api.Program)) {
		p := program(function(example()...), function(jump(0)))
		turn(&p)
		l, want = append(l, p), append(want, e)
	}
	put(api.ErrShape, func(p *api.Program) { *p = api.Program{} })
	put(api.ErrShape, func(p *api.Program) { p.Funcs = nil })
	put(api.ErrShape, func(p *api.Program) { p.Funcs = slices.Repeat(p.Funcs, 5) })
	put(api.ErrMany, func(p *api.Program) { p.Types = make([]api.Type, 17) })
	put(api.ErrType, func(p *api.Program) { p.Types[0].Kind = 0 })
	put(api.ErrType, func(p *api.Program) { p.Types, p.Funcs = []api.Type{{Kind: 6}}, nil })
	put(api.ErrShape, func(p *api.Program) { p.Types = nil })
	put(api.ErrShape, func(p *api.Program) { p.Funcs[1].Sig = 0 })
	put(api.ErrShape, func(p *api.Program) { p.Funcs[0].Sig = -1 })
	put(api.ErrShape, func(p *api.Program) { p.Funcs[0].Blocks = nil })
	put(api.ErrShape, func(p *api.Program) { p.Funcs[1].Blocks = nil })
	put(api.ErrShape, func(p *api.Program) { p.Funcs[1].Blocks = slices.Repeat(p.Funcs[1].Blocks, 17) })
	put(api.ErrShape, func(p *api.Program) { p.Funcs[1].Blocks[0].Ins[0].Op = 0 })
	put(api.ErrShape, func(p *api.Program) { p.Funcs[1].Blocks[0].Ins = make([]api.Ins, 129) })
	for f := range 2 {
		for _, end := range []api.End{{}, {Kind: 4}, {Kind: 255}, jump(-1), jump(3), jump(least), jump(most), branch(0, 3), branch(3, 0), branch(-1, 0), branch(0, most), {Kind: 2, A: 1}, {Kind: 3, A: 1}, {Kind: 3, To: 1}, {Kind: 1, Else: 1}} {
			put(api.ErrShape, func(p *api.Program) { p.Funcs[f].Blocks[0].End = end })
		}
	}
	return l, want
}

// P9.1, P9.2: programs that shape refuses: its error ahead of all others.
func TestRefused(t *testing.T) {
	l, want := refused()
	for k, p := range l {
		if e := shape.Check(p); e != want[k] {
			t.Errorf("shape of %+v: %d; want %d", p, e, want[k])
		}
		for _, f := range []int{0, 1, 2, -1, 8, least, most} {
			mustRefuseFunc(t, fmt.Sprintf("refused %d", k), p, f, want[k])
		}
	}
}

// roomy answers l with room behind it that holds a mark.
func roomy[T any](l []T, mark T) []T {
	return append(slices.Clone(l), mark, mark)[:len(l)]
}

// wide answers p with room behind all its lists.
func wide(p api.Program) api.Program {
	p.Types = roomy(p.Types, api.Type{Kind: 77})
	p.Funcs = roomy(p.Funcs, api.Func{Sig: 77})
	for f := range p.Funcs {
		blocks := roomy(p.Funcs[f].Blocks, api.Block{End: api.End{Kind: 77}})
		for b := range blocks {
			blocks[b].Ins = roomy(blocks[b].Ins, api.Ins{Op: 77})
		}
		p.Funcs[f].Blocks = blocks
	}
	return p
}

// whole answers p in new memory, with what stands in the room behind its lists as part of them.
func whole(p api.Program) api.Program {
	p.Types, p.Funcs = p.Types[:cap(p.Types)], slices.Clone(p.Funcs[:cap(p.Funcs)])
	for f := range p.Funcs {
		l := p.Funcs[f].Blocks
		l = slices.Clone(l[:cap(l)])
		for b := range l {
			l[b].Ins = l[b].Ins[:cap(l[b].Ins)]
		}
		p.Funcs[f].Blocks = l
	}
	return shape.Twin(p)
}

// askAll asks everything of p, also what is not there.
func askAll(p api.Program) {
	for f := -1; f <= len(p.Funcs); f++ {
		flow.Reach(p, f)
		flow.Order(p, f)
		for b := -1; b <= api.MaxBlocks; b++ {
			flow.Next(p, f, b)
			flow.Preds(p, f, b)
			flow.Round(p, f, b)
		}
	}
}

// P9.3: what is handed in is only read, also behind the ends of its lists.
func TestOnlyRead(t *testing.T) {
	l, _ := refused()
	l = append(l, one(example()...), one(jump(0)), program(function(branch(3, 1), jump(2), branch(0, 2), giveBack(), jump(4)), function(example()...)))
	for _, p := range l {
		p = wide(p)
		held, all := shape.Twin(p), whole(p)
		askAll(p)
		if !reflect.DeepEqual(p, held) || !reflect.DeepEqual(whole(p), all) {
			t.Errorf("what was handed in, %+v, is %+v", held, p)
		}
	}
}

// P9.3: what is answered is new memory: two answers are apart, and apart from the program, behind their ends, too.
func TestNew(t *testing.T) {
	p := program(function(branch(2, 1), branch(0, 2), branch(1, 3), branch(3, 0)), function(jump(0)))
	held := shape.Twin(p)
	for f, blocks := range []int{4, 1} {
		asks := map[string]func() ([]int, api.Errno){
			"Reach": func() ([]int, api.Errno) { return flow.Reach(p, f) },
			"Order": func() ([]int, api.Errno) { return flow.Order(p, f) },
		}
		for b := range blocks {
			asks[fmt.Sprint("Next ", b)] = func() ([]int, api.Errno) { return flow.Next(p, f, b) }
			asks[fmt.Sprint("Preds ", b)] = func() ([]int, api.Errno) { return flow.Preds(p, f, b) }
		}
		told := map[string][]int{}
		for what, ask := range asks {
			told[what], _ = ask()
		}
		for what, ask := range asks {
			first, _ := ask()
			want := slices.Clone(first)
			second, _ := ask()
			first = first[:cap(first)]
			for k := range first {
				first[k] = -9
			}
			third, _ := ask()
			if len(want) == 0 || !slices.Equal(second, want) || !slices.Equal(third, want) {
				t.Errorf("%s: %v, and then %v and %v", what, want, second, third)
			}
		}
		for what, ask := range asks {
			if l, _ := ask(); !slices.Equal(l, told[what]) {
				t.Errorf("%s was %v, and is %v", what, told[what], l)
			}
		}
	}
	if !reflect.DeepEqual(p, held) {
		t.Errorf("the program, %+v, is %+v", held, p)
	}
	next, _ := flow.Next(p, 0, 0)
	p.Funcs[0].Blocks[0].End = jump(3) // what was told stays as it is
	if !slices.Equal(next, []int{2, 1}) {
		t.Errorf("what was told of Next is %v", next)
	}
}

// laws holds what P9.4 promises of what is answered, and of nothing else.
func laws(t *testing.T, p api.Program, f int) {
	t.Helper()
	a := answered(t, p, f)
	many := len(p.Funcs[f].Blocks)
	at := make([]int, many)
	for k, b := range a.order {
		at[b] = k + 1
	}
	come := func(from, to int) bool {
		var begun [api.MaxBlocks]bool
		for left := slices.Clone(a.next[from]); len(left) > 0; left = left[1:] {
			if !begun[left[0]] {
				begun[left[0]] = true
				left = append(left, a.next[left[0]]...)
			}
		}
		return begun[to]
	}
	for b := range many {
		for k := range many {
			goes := slices.Contains(a.next[b], k)
			if goes != slices.Contains(a.preds[k], b) {
				t.Errorf("of %+v: %d goes to %d: %v", p.Funcs[f], b, k, goes)
			}
			if goes && at[b] > 0 && !come(k, b) && (at[k] == 0 || at[b] >= at[k]) {
				t.Errorf("of %+v: %d goes to %d, in the order %v", p.Funcs[f], b, k, a.order)
			}
		}
		if come(b, b) != slices.Contains(a.round, b) {
			t.Errorf("of %+v: %d lies on a round: %v", p.Funcs[f], b, !come(b, b))
		}
		if !slices.IsSorted(a.preds[b]) || len(slices.Compact(slices.Clone(a.preds[b]))) != len(a.preds[b]) {
			t.Errorf("of %+v: those ahead of %d: %v", p.Funcs[f], b, a.preds[b])
		}
	}
	if a.order[0] != 0 || !slices.Equal(slices.Sorted(slices.Values(a.order)), a.reach) || len(slices.Compact(slices.Clone(a.reach))) != len(a.reach) {
		t.Errorf("of %+v: the order %v of %v", p.Funcs[f], a.order, a.reach)
	}
}

// endsOf answers all ends of a block of a function of so many.
func endsOf(many int) []api.End {
	l := []api.End{giveBack()}
	for to := range many {
		l = append(l, jump(to))
		for other := range many {
			l = append(l, branch(to, other))
		}
	}
	return l
}

// P9.1, P9.2, P9.4: all functions of up to three blocks.
func TestAllSmall(t *testing.T) {
	for many := 1; many <= 3; many++ {
		choices := endsOf(many)
		ends := make([]api.End, many)
		var put func(b int)
		put = func(b int) {
			if b == many {
				if a, want := answered(t, one(ends...), 0), modelled(ends); !a.same(want) {
					t.Errorf("of %+v: %+v; want %+v", ends, a, want)
				}
				laws(t, one(ends...), 0)
				return
			}
			for _, x := range choices {
				ends[b] = x
				put(b + 1)
			}
		}
		put(0)
	}
}

// chance is numbers that come out alike each time.
type chance uint64

func (c *chance) next(below int) int {
	*c = *c*6364136223846793005 + 1442695040888963407
	return int((uint64(*c) >> 33) % uint64(below))
}

// ends answers the ends of a function: with few returns it is reached far, with few branches it is long.
func (c *chance) ends() []api.End {
	many, returns, branches := 1+c.next(api.MaxBlocks), 1+c.next(8), 1+c.next(4)
	l := make([]api.End, many)
	for b := range l {
		switch {
		case c.next(returns) == 0 && c.next(2) == 0:
			l[b] = giveBack()
		case c.next(branches) == 0:
			l[b] = jump(c.next(many))
		default:
			l[b] = branch(c.next(many), c.next(many))
		}
	}
	return l
}

// P9.1, P9.2, P9.4: functions by the thousand, of up to the most blocks, several in a program.
func TestMixed(t *testing.T) {
	c := chance(9)
	for range 1000 {
		var all [][]api.End
		var l []api.Func
		for range 1 + c.next(4) {
			ends := c.ends()
			all, l = append(all, ends), append(l, function(ends...))
		}
		p := program(l...)
		for f, ends := range all {
			if a, want := answered(t, p, f), modelled(ends); !a.same(want) {
				t.Errorf("of %+v: %+v; want %+v", ends, a, want)
			}
			laws(t, p, f)
		}
	}
}

// P1: nothing is kept from call to call, whatever is asked between; each call ends, also of lists that are far too long.
func TestAgain(t *testing.T) {
	first := answered(t, one(example()...), 0)
	for range 3 {
		askAll(one(slices.Repeat([]api.End{branch(1, 0)}, 16)...))
		for _, b := range []int{-1, 3} {
			mustRefuse(t, "the example", one(example()...), 0, b, api.ErrArg)
		}
		mustRefuseFunc(t, "no program", api.Program{}, 0, api.ErrShape)
		if again := answered(t, one(example()...), 0); !again.same(first) {
			t.Errorf("%+v, and then %+v", first, again)
		}
	}
	p := one(example()...)
	p.Funcs[0].Blocks = make([]api.Block, 1_000_000)
	mustRefuseFunc(t, "too many blocks", p, 0, api.ErrShape)
	p.Funcs = make([]api.Func, 1_000_000)
	mustRefuseFunc(t, "too many functions", p, 999_999, api.ErrShape)
	p.Types = make([]api.Type, 1_000_000)
	mustRefuseFunc(t, "too many types", p, 0, api.ErrMany)
}
