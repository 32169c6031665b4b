package live_test

import (
	"fmt"
	"math"
	"reflect"
	"slices"
	"strings"
	"testing"

	"fescue/api"
	"fescue/live"
	"fescue/read"
	"fescue/shape"
)

const (
	least = math.MinInt
	most  = math.MaxInt
)

// table is the types of most programs here: functions of none, of two and of four parameters are t2, t3 and t4.
const table = "type int / type ptr t0 / type fn t0 / type fn t0 t0 t0 / type fn t0 t0 t0 t0 t0"

// program answers the program of these functions' lines, which are parted by a /.
func program(t *testing.T, l ...string) api.Program {
	t.Helper()
	p, e := read.Read(strings.ReplaceAll(strings.Join(append([]string{table}, l...), " / "), "/", "\n"))
	if e != api.OK {
		t.Fatalf("%v is no program: %d", l, e)
	}
	return p
}

// line tells a list of registers.
func line(l []int) string {
	if len(l) == 0 {
		return "-"
	}
	return strings.Trim(fmt.Sprint(l), "[]")
}

// lines tells of each block what lives at its places, one behind the other, and what at its end: lives is asked for that by one place more.
func lines(f api.Func, lives func(b, at int) []int) []string {
	var l []string
	for b, x := range f.Blocks {
		var row []string
		for at := range len(x.Ins) + 1 {
			row = append(row, line(lives(b, at)))
		}
		l = append(l, strings.Join(row, ", ")+" : "+line(lives(b, len(x.Ins)+1)))
	}
	return l
}

// told tells what is answered of a function; all errors are to be OK.
func told(t *testing.T, p api.Program, f int) []string {
	t.Helper()
	return lines(p.Funcs[f], func(b, at int) (l []int) {
		var e api.Errno
		if at <= len(p.Funcs[f].Blocks[b].Ins) {
			l, e = live.At(p, f, b, at)
		} else {
			l, e = live.End(p, f, b)
		}
		if e != api.OK {
			t.Fatalf("of %+v: at %d of %d: %d", p.Funcs[f], at, b, e)
		}
		return l
	})
}

// model is a function, by the document's words.
type model struct {
	api.Func
	regs int
	own  [][2]int // of each register the block of its instruction, and the place in it
}

func modelOf(p api.Program, f int) model {
	m := model{Func: p.Funcs[f]}
	m.regs, _ = shape.Regs(p, f)
	for r := range m.regs {
		b, at, _ := shape.Place(p, f, r)
		m.own = append(m.own, [2]int{b, at})
	}
	return m
}

// next tells where a block goes to.
func next(x api.Block) []int {
	switch x.End.Kind {
	case 1:
		return []int{x.End.To}
	case 2:
		return []int{x.End.To, x.End.Else}
	}
	return nil
}

// reads tells whether a register is read at a place of a block: by the instruction, or the end; behind the end: by phis of those that the block goes to.
func (m model) reads(r, b, at int) bool {
	l := m.Blocks[b].Ins
	if at < len(l) {
		return l[at].Op != 22 && slices.Contains(shape.Uses(l[at]), r)
	}
	if at == len(l) {
		return slices.Contains(shape.Ends(m.Blocks[b].End), r)
	}
	for _, k := range next(m.Blocks[b]) {
		for _, x := range m.Blocks[k].Ins {
			for n, from := range x.From {
				if x.Op == 22 && from == b && x.Args[n] == r {
					return true
				}
			}
		}
	}
	return false
}

// way tells whether there is a way on from a place to where a register is read, on which no instruction is its own.
func (m model) way(r, b, at int) bool {
	begun := map[[2]int]bool{}
	for left := [][2]int{{b, at}}; len(left) > 0; left = left[1:] {
		b, at := left[0][0], left[0][1]
		if begun[left[0]] {
			continue
		}
		begun[left[0]] = true
		if m.reads(r, b, at) {
			return true
		}
		if at > len(m.Blocks[b].Ins) {
			for _, k := range next(m.Blocks[b]) {
				left = append(left, [2]int{k, 0})
			}
		} else if m.own[r] != left[0] {
			left = append(left, [2]int{b, at + 1})
		}
	}
	return false
}

// byWays tells what P11.3 promises.
func (m model) byWays() []string {
	return lines(m.Func, func(b, at int) (l []int) {
		for r := range m.regs {
			if m.way(r, b, at) {
				l = append(l, r)
			}
		}
		return l
	})
}

// byWords tells the smallest sets of which the chapter's words are so: they begin with none, and grow till nothing is turned.
func (m model) byWords() []string {
	lives := map[[3]int]bool{} // register, block, place
	for turned := true; turned; {
		turned = false
		for r := range m.regs {
			for b, x := range m.Blocks {
				for at := range len(x.Ins) + 2 {
					if k := [3]int{r, b, at}; !lives[k] && m.lives(lives, r, b, at) {
						lives[k], turned = true, true
					}
				}
			}
		}
	}
	return lines(m.Func, func(b, at int) (l []int) {
		for r := range m.regs {
			if lives[[3]int{r, b, at}] {
				l = append(l, r)
			}
		}
		return l
	})
}

// lives tells whether a register does, by what lives already.
func (m model) lives(already map[[3]int]bool, r, b, at int) bool {
	end := len(m.Blocks[b].Ins) + 1
	if at == end {
		return m.reads(r, b, end) || slices.ContainsFunc(next(m.Blocks[b]), func(k int) bool { return already[[3]int{r, k, 0}] })
	}
	for k := at; k < end; k++ {
		if m.reads(r, b, k) {
			return true
		}
		if m.own[r] == [2]int{b, k} {
			return false
		}
	}
	return already[[3]int{r, b, end}]
}

// mustModel holds what is told of each function of p against both models.
func mustModel(t *testing.T, what string, p api.Program) {
	t.Helper()
	for f := range p.Funcs {
		m, is := modelOf(p, f), told(t, p, f)
		if ways := m.byWays(); !slices.Equal(is, ways) {
			t.Errorf("%s: of %+v: %q; by ways %q", what, p.Funcs[f], is, ways)
		}
		if words := m.byWords(); !slices.Equal(is, words) {
			t.Errorf("%s: of %+v: %q; by the words %q", what, p.Funcs[f], is, words)
		}
	}
}

// mustTell holds what is told of a program's only function, block by block, against what is wanted, and against the models.
func mustTell(t *testing.T, what, function string, want ...string) {
	t.Helper()
	p := program(t, function)
	if is := told(t, p, 0); !slices.Equal(is, want) {
		t.Errorf("%s: %q; want %q", what, is, want)
	}
	mustModel(t, what, p)
}

// example is the document's example.
const example = "func t2 / block / r0 t0 = int 5 / r1 t0 = int 6 / jump b1" +
	" / block / r2 t0 = phi b0 r0 b1 r3 / r3 t0 = add r2 r1 / branch r3 b1 b2 / block / return r3"

// P11.1: the document's example.
func TestExample(t *testing.T) {
	mustTell(t, "the example", example, "-, 0, 0 1 : 0 1", "1, 1 2, 1 3 : 1 3", "3 : -")
}

// P11.1: functions of one block, also without an instruction, and without a register.
func TestOneBlock(t *testing.T) {
	mustTell(t, "no instruction", "func t3 / block / return r1", "1 : -")
	mustTell(t, "no instruction, and a round", "func t3 / block / jump b0", "- : -")
	mustTell(t, "no instruction, and a round that reads", "func t3 / block / branch r1 b0 b0", "1 : 1")
	mustTell(t, "no register", "func t2 / block / jump b0", "- : -")
	mustTell(t, "one instruction", "func t2 / block / r0 t0 = int 1 / return r0", "-, 0 : -")
	mustTell(t, "one instruction that the end does not read", "func t3 / block / r2 t0 = int 1 / return r0", "0, 0 : -")
	mustTell(t, "places between", "func t2 / block / r0 t0 = int 1 / r1 t0 = int 2 / r2 t0 = add r1 r0 / r3 t0 = mul r2 r1 / return r3",
		"-, 0, 0 1, 1 2, 3 : -")
}

// P11.1: who reads a register: its own instruction, one ahead of that, another block alone, an end, nothing.
func TestReaders(t *testing.T) {
	mustTell(t, "its own instruction", "func t2 / block / r0 t0 = add r0 r0 / r1 t0 = int 1 / return r1", "0, -, 1 : -")
	mustTell(t, "its own instruction, and the end", "func t2 / block / r0 t0 = sub r0 r0 / return r0", "0, 0 : -")
	mustTell(t, "one ahead of its own", "func t2 / block / print r1 / r1 t0 = int 1 / r2 t0 = int 1 / return r2", "1, -, -, 2 : -")
	mustTell(t, "one ahead of its own, and one behind", "func t2 / block / print r1 / r1 t0 = int 1 / print r1 / return r1", "1, -, 1, 1 : -")
	mustTell(t, "another block alone", "func t2 / block / r0 t0 = int 1 / jump b1 / block / print r0 / r2 t0 = int 1 / return r2",
		"-, 0 : 0", "0, -, 2 : -")
	mustTell(t, "a block that stands ahead", "func t2 / block / jump b2 / block / return r0 / block / r0 t0 = int 1 / jump b1",
		"- : -", "0 : -", "-, 0 : 0")
	mustTell(t, "a branch", "func t2 / block / r0 t0 = int 1 / branch r0 b1 b2 / block / jump b2 / block / jump b1", "-, 0 : -", "- : -", "- : -")
	mustTell(t, "nothing", "func t2 / block / r0 t0 = int 1 / r1 t0 = int 2 / jump b1 / block / return r1", "-, -, 1 : 1", "1 : -")
	mustTell(t, "one register twice", "func t3 / block / r2 t0 = add r1 r1 / print r1 / return r0", "0 1, 0 1, 0 : -")
}

// P11.1: what each operation reads, and what a return does.
func TestUses(t *testing.T) {
	for text, want := range map[string]string{
		"r4 t0 = int 1": "0", "r4 t1 = null": "0", "r4 t2 = fn f0": "0", "r4 t1 = new": "0", "r4 t1 = local": "0", "r4 t0 = read": "0",
		"r4 t0 = add r2 r3": "0 2 3", "r4 t0 = sub r2 r3": "0 2 3", "r4 t0 = mul r2 r3": "0 2 3", "r4 t0 = div r2 r3": "0 2 3",
		"r4 t0 = less r2 r3": "0 2 3", "r4 t0 = eq r2 r3": "0 2 3", "r4 t0 = same r2 r3": "0 2 3", "r4 t1 = elem r2 r3": "0 2 3",
		"free r2": "0 2", "r4 t1 = field r2 1": "0 2", "r4 t0 = load r3": "0 3", "store r2 r3": "0 2 3", "print r3": "0 3",
		"r4 t0 = call f0": "0", "r4 t0 = call f0 r1 r3 r2 r1": "0 1 2 3", "r4 t0 = icall r3": "0 3", "r4 t0 = icall r3 r1 r2": "0 1 2 3",
		"r4 t0 = phi b0 r2 b1 r3": "0",
	} {
		mustTell(t, text, "func t4 / block / "+text+" / return r0 / block / jump b1", want+", 0 : -", "- : -")
	}
}

// P11.1: the register of an instruction that answers nothing is one as all others.
func TestNoAnswer(t *testing.T) {
	mustTell(t, "a print's", "func t3 / block / print r0 / return r2", "0, 2 : -")
	mustTell(t, "a store's, in a round", "func t3 / block / store r2 r1 / free r2 / jump b0", "1 2, 1 2, 1 2 : 1 2")
	mustTell(t, "a free's, by a phi", "func t3 / block / free r1 / jump b1 / block / r3 t0 = phi b0 r2 / return r3", "1, 2 : 2", "-, 3 : -")
}

// P11.1: rows of blocks.
func TestRows(t *testing.T) {
	mustTell(t, "read at the end of it", "func t3 / block / jump b1 / block / r2 t0 = int 1 / jump b2 / block / jump b3 / block / r3 t0 = add r0 r2 / return r3",
		"0 : 0", "0, 0 2 : 0 2", "0 2 : 0 2", "0 2, 3 : -")
	mustTell(t, "read on the way", "func t3 / block / jump b1 / block / print r0 / jump b2 / block / print r1 / jump b3 / block / return r2",
		"0 1 : 0 1", "0 1, 1 2 : 1 2", "1 2, 2 : 2", "2 : -")
	mustTell(t, "set on the way", "func t2 / block / jump b1 / block / r0 t0 = int 1 / jump b2 / block / return r0", "- : -", "-, 0 : 0", "0 : -")
	mustTell(t, "read, and set behind that", "func t2 / block / print r1 / jump b1 / block / r1 t0 = int 1 / jump b2 / block / return r1", "1, - : -", "-, 1 : 1", "1 : -")
	mustTell(t, "back", "func t3 / block / jump b3 / block / return r0 / block / print r1 / jump b1 / block / jump b2",
		"0 1 : 0 1", "0 : -", "0 1, 0 : 0", "0 1 : 0 1")
}

// P11.1: branches whose ways meet again, such whose ways don't, and one whose Else is its To.
func TestBranches(t *testing.T) {
	mustTell(t, "read on one way", "func t3 / block / branch r0 b1 b2 / block / print r1 / jump b3 / block / jump b3 / block / return r0",
		"0 1 : 0 1", "0 1, 0 : 0", "0 : 0", "0 : -")
	mustTell(t, "read on the other one", "func t3 / block / branch r0 b1 b2 / block / jump b3 / block / print r1 / jump b3 / block / return r0",
		"0 1 : 0 1", "0 : 0", "0 1, 0 : 0", "0 : -")
	mustTell(t, "read where they meet", "func t3 / block / branch r0 b1 b2 / block / jump b3 / block / jump b3 / block / return r1",
		"0 1 : 1", "1 : 1", "1 : 1", "1 : -")
	mustTell(t, "set on one way", "func t3 / block / branch r0 b1 b2 / block / r2 t0 = int 1 / jump b3 / block / jump b3 / block / return r2",
		"0 2 : 2", "-, 2 : 2", "2 : 2", "2 : -")
	mustTell(t, "set on one way, read on the other", "func t3 / block / branch r0 b1 b2 / block / r2 t0 = int 1 / return r0 / block / return r2",
		"0 2 : 0 2", "0, 0 : -", "2 : -")
	mustTell(t, "whose ways don't meet", "func t3 / block / branch r1 b1 b2 / block / return r0 / block / return r1", "0 1 : 0 1", "0 : -", "1 : -")
	mustTell(t, "whose Else is its To", "func t3 / block / branch r0 b1 b1 / block / r2 t0 = phi b0 r1 / r3 t0 = add r2 r0 / return r3",
		"0 1 : 0 1", "0, 0 2, 3 : -")
	mustTell(t, "that is not read on", "func t3 / block / r2 t0 = int 0 / branch r2 b1 b2 / block / return r0 / block / jump b1", "0, 0 2 : 0", "0 : -", "0 : 0")
}

// P11.1: rounds of one block, of two and of many, one within another, and such without a way out.
func TestRounds(t *testing.T) {
	mustTell(t, "of one", "func t3 / block / jump b1 / block / print r0 / branch r1 b1 b2 / block / return r2",
		"0 1 : 0 1", "0 1, 0 1 2 : 0 1 2", "2 : -")
	mustTell(t, "of one, read ahead of its own", "func t2 / block / print r1 / r1 t0 = int 1 / jump b0", "1, -, 1 : 1")
	mustTell(t, "of one, read behind its own", "func t2 / block / r0 t0 = int 1 / print r0 / jump b0", "-, 0, - : -")
	mustTell(t, "of one, read by its own", "func t2 / block / r0 t0 = add r0 r0 / jump b0", "0, 0 : 0")
	mustTell(t, "of two", "func t3 / block / jump b1 / block / r2 t0 = int 1 / jump b2 / block / print r0 / branch r2 b1 b3 / block / return r1",
		"0 1 : 0 1", "0 1, 0 1 2 : 0 1 2", "0 1 2, 0 1 2 : 0 1", "1 : -")
	mustTell(t, "of two, read in the first one alone", "func t3 / block / branch r0 b1 b2 / block / jump b0 / block / return r1", "0 1 : 0 1", "0 1 : 0 1", "1 : -")
	mustTell(t, "of many", "func t3 / block / jump b1 / block / print r2 / jump b2 / block / jump b3 / block / r3 t0 = int 1 / jump b4 / block / branch r3 b1 b5 / block / return r0",
		"0 2 : 0 2", "0 2, 0 2 : 0 2", "0 2 : 0 2", "0 2, 0 2 3 : 0 2 3", "0 2 3 : 0 2", "0 : -")
	mustTell(t, "one within another", "func t3 / block / jump b1 / block / r2 t0 = int 1 / jump b2 / block / print r2 / branch r0 b2 b3 / block / branch r1 b1 b4 / block / return r3",
		"0 1 : 0 1", "0 1, 0 1 2 : 0 1 2", "0 1 2, 0 1 2 3 : 0 1 2 3", "0 1 3 : 0 1 3", "3 : -")
	mustTell(t, "without a way out, and read behind it", "func t3 / block / print r0 / jump b1 / block / jump b1 / block / return r1", "0, - : -", "- : -", "1 : -")
	mustTell(t, "of two that are come to at both", "func t3 / block / branch r0 b1 b2 / block / r2 t0 = int 1 / jump b2 / block / print r2 / branch r1 b1 b3 / block / return r2",
		"0 1 2 : 1 2", "1, 1 2 : 1 2", "1 2, 1 2 : 1 2", "2 : -")
}

// P11.1: a register that is set twice on one way round a loop lives from where it is set to where it is read, and not from there to where it is set anew.
func TestSetTwice(t *testing.T) {
	mustTell(t, "read in its round", "func t3 / block / r2 t0 = int 1 / jump b1 / block / print r2 / jump b2 / block / branch r0 b0 b3 / block / return r0",
		"0, 0 2 : 0 2", "0 2, 0 : 0", "0 : 0", "0 : -")
	mustTell(t, "read at the end of its round", "func t3 / block / jump b1 / block / r2 t0 = int 1 / jump b2 / block / branch r2 b1 b3 / block / return r2",
		"- : -", "-, 2 : 2", "2 : 2", "2 : -")
	mustTell(t, "read ahead of its own, a round on", "func t3 / block / r2 t0 = int 1 / jump b1 / block / print r4 / r4 t0 = add r4 r2 / branch r4 b1 b2 / block / return r4",
		"4, 2 4 : 2 4", "2 4, 2 4, 2 4 : 2 4", "4 : -")
}

// P11.1: parameters, read and not; they have no instruction of their own.
func TestParameters(t *testing.T) {
	mustTell(t, "none of them read", "func t4 / block / r4 t0 = int 1 / return r4", "-, 4 : -")
	mustTell(t, "all of them read", "func t4 / block / r4 t0 = add r0 r1 / jump b1 / block / r5 t0 = add r2 r3 / return r5", "0 1 2 3, 2 3 : 2 3", "2 3, 5 : -")
	mustTell(t, "one of them read", "func t4 / block / jump b1 / block / return r2", "2 : 2", "2 : -")
	mustTell(t, "in a round", "func t4 / block / jump b1 / block / branch r3 b0 b1", "3 : 3", "3 : 3")
}

// P11.1: what a phi has is read at the ends of the blocks that it comes from, and nowhere else.
func TestPhis(t *testing.T) {
	mustTell(t, "from one block", "func t3 / block / jump b1 / block / r2 t0 = phi b0 r1 / return r2", "1 : 1", "-, 2 : -")
	mustTell(t, "from several", "func t3 / block / branch r0 b1 b2 / block / r2 t0 = int 1 / jump b3 / block / r3 t0 = int 2 / jump b3 / block / r4 t0 = phi b1 r2 b2 r3 / return r4",
		"0 : -", "-, 2 : 2", "-, 3 : 3", "-, 4 : -")
	mustTell(t, "from its own block", "func t3 / block / jump b1 / block / r2 t0 = phi b0 r0 b1 r3 / r3 t0 = int 1 / branch r1 b1 b2 / block / return r2",
		"0 1 : 0 1", "1, 1 2, 1 2 3 : 1 2 3", "2 : -")
	mustTell(t, "one register from two blocks", "func t3 / block / branch r0 b1 b2 / block / jump b3 / block / jump b3 / block / r2 t0 = phi b1 r1 b2 r1 / return r2",
		"0 1 : 1", "1 : 1", "1 : 1", "-, 2 : -")
	mustTell(t, "its own register", "func t3 / block / jump b1 / block / r2 t0 = phi b0 r0 b1 r2 / branch r1 b1 b2 / block / return r1",
		"0 1 : 0 1", "1, 1 2 : 1 2", "1 : -")
	mustTell(t, "read by another phi of its block", "func t3 / block / jump b1 / block / r2 t0 = phi b0 r0 b1 r3 / r3 t0 = phi b0 r1 b1 r2 / branch r2 b1 b2 / block / return r3",
		"0 1 : 0 1", "-, 2, 2 3 : 2 3", "3 : -")
	mustTell(t, "that nothing reads", "func t3 / block / jump b1 / block / r2 t0 = phi b0 r0 / return r1", "0 1 : 0 1", "1, 1 : -")
	mustTell(t, "a parameter, alive on", "func t3 / block / jump b1 / block / r2 t0 = phi b0 r0 / return r0", "0 : 0", "0, 0 : -")
}

// P11.1: phis of which only shape is asked: from a block that does not go there, or from one twice; behind another instruction; in block 0, in a block that is not reached; of a register that is set in the block that it comes from.
func TestOddPhis(t *testing.T) {
	mustTell(t, "from a block that does not go there", "func t3 / block / branch r0 b1 b2 / block / return r0 / block / r2 t0 = phi b1 r1 / return r2",
		"0 : 0", "0 : -", "-, 2 : -")
	mustTell(t, "from one, and no other, that goes there", "func t3 / block / branch r0 b1 b2 / block / jump b2 / block / r2 t0 = phi b1 r1 / return r2",
		"0 1 : 1", "1 : 1", "-, 2 : -")
	mustTell(t, "from one block twice", "func t3 / block / jump b1 / block / r2 t0 = phi b0 r1 b0 r0 / return r2", "0 1 : 0 1", "-, 2 : -")
	mustTell(t, "behind another instruction", "func t3 / block / jump b1 / block / print r0 / r3 t0 = phi b0 r2 b0 r1 / return r3", "0 1 2 : 0 1 2", "0, -, 3 : -")
	mustTell(t, "in block 0", "func t3 / block / r2 t0 = phi b1 r0 / jump b1 / block / branch r2 b0 b1", "0, 0 2 : 0 2", "0 2 : 0 2")
	mustTell(t, "in a block that is not reached", "func t3 / block / return r0 / block / r2 t0 = phi b0 r1 b2 r1 / return r2 / block / jump b1", "0 : -", "-, 2 : -", "1 : 1")
	mustTell(t, "set in the block that it comes from", "func t3 / block / print r0 / r3 t0 = int 1 / jump b1 / block / r4 t0 = phi b0 r3 / return r4",
		"0, -, 3 : 3", "-, 4 : -")
	mustTell(t, "read, and set again, where the phi stands", "func t3 / block / jump b1 / block / r2 t0 = phi b0 r3 / r3 t0 = int 1 / return r2", "3 : 3", "-, 2, 2 : -")
}

// P11.1: blocks that are not reached are blocks as all others, and ways from them are ways.
func TestNotReached(t *testing.T) {
	mustTell(t, "one that goes to one that is reached", "func t3 / block / jump b2 / block / r2 t0 = int 1 / jump b2 / block / return r0", "0 : 0", "0, 0 : 0", "0 : -")
	mustTell(t, "one that is set there alone", "func t3 / block / jump b2 / block / r2 t0 = int 1 / jump b2 / block / return r2", "2 : 2", "-, 2 : 2", "2 : -")
	mustTell(t, "a phi's register from there", "func t3 / block / jump b2 / block / jump b2 / block / r2 t0 = phi b0 r0 b1 r1 / return r2", "0 : 0", "1 : 1", "-, 2 : -")
	mustTell(t, "a round", "func t3 / block / return r0 / block / print r1 / jump b2 / block / branch r2 b1 b0", "0 : -", "0 1, 0 1 2 : 0 1 2", "0 1 2 : 0 1")
	mustTell(t, "one that reads alone", "func t3 / block / jump b0 / block / return r1", "- : -", "1 : -")
}

// P11.1: functions of the most blocks: what the last one reads lives in all of them, in a row, in a round, and in a row the other way round.
func TestMostBlocks(t *testing.T) {
	row, back := "func t3 / block / jump b1", "func t3 / block / jump b15 / block / r2 t0 = add r0 r1 / return r2"
	both := slices.Repeat([]string{"0 1 : 0 1"}, 15)
	for b := 2; b < 16; b++ {
		row += fmt.Sprintf(" / block / jump b%d", b)
		back += fmt.Sprintf(" / block / jump b%d", b-1)
	}
	mustTell(t, "a row", row+" / block / r2 t0 = add r0 r1 / return r2", append(both, "0 1, 2 : -")...)
	mustTell(t, "a round", row+" / block / r2 t0 = add r0 r1 / jump b0", append(both, "0 1, 0 1 : 0 1")...)
	mustTell(t, "a row back", back, slices.Insert(both, 1, "0 1, 2 : -")...)
}

// from answers the numbers from first to below behind, and more.
func from(first, behind int, more ...int) []int {
	var l []int
	for r := first; r < behind; r++ {
		l = append(l, r)
	}
	return append(l, more...)
}

func mustAt(t *testing.T, p api.Program, b, at int, want []int) {
	t.Helper()
	if l, e := live.At(p, 0, b, at); e != api.OK || !slices.Equal(l, want) {
		t.Errorf("at %d of %d: %v, %d; want %v", at, b, l, e, want)
	}
}

// ints answers so many instructions, the first one of which is the register r.
func ints(r, many int) string {
	text := ""
	for k := range many {
		text += fmt.Sprintf(" / r%d t0 = int 1", r+k)
	}
	return text
}

// P11.1: of the most instructions, one block sets registers, and the other one reads them, one by one.
func TestMostInstructions(t *testing.T) {
	text := "func t4 / block" + ints(4, 64) + " / jump b1 / block"
	for r := 4; r < 68; r++ {
		text += fmt.Sprintf(" / print r%d", r)
	}
	row, round := program(t, text+" / return r131"), program(t, text+" / branch r131 b1 b0")
	for k := range 64 {
		mustAt(t, row, 0, k, from(4, 4+k))
		mustAt(t, row, 1, k, from(4+k, 68))
		mustAt(t, round, 0, k, from(4, 4+k))
		mustAt(t, round, 1, k, from(4, 68))
	}
	mustAt(t, row, 1, 64, []int{131})
	mustAt(t, round, 1, 64, from(4, 68, 131))
	mustModel(t, "a row", row)
	mustModel(t, "a round", round)
}

// P11.1: of the most instructions, all in one block, each one reads the register of the one behind it, and the last one that of the first.
func TestMostInABlock(t *testing.T) {
	text := "func t2 / block"
	for r := range 128 {
		text += fmt.Sprintf(" / r%d t0 = add r%d r%d", r, (r+1)%128, (r+1)%128)
	}
	p := program(t, text+" / jump b0")
	for k := range 129 {
		mustAt(t, p, 0, k, slices.Delete(from(0, 128), k%128, k%128+1))
	}
}

// P11.1: all registers live, and they are as many as can be: each instruction of the other block reads its own, and three more.
func TestMostRegisters(t *testing.T) {
	text := "func t4 / block" + ints(4, 95) + " / jump b1 / block"
	for k := range 33 {
		text += fmt.Sprintf(" / r%d t0 = call f0 r%d r%d r%d r%d", 99+k, 3*k, 3*k+1, 3*k+2, 99+k)
	}
	p := program(t, text+" / jump b1")
	for k := range 96 {
		mustAt(t, p, 0, k, append(from(0, 4+k), from(99, 132)...))
	}
	for k := range 34 {
		mustAt(t, p, 1, k, from(0, 132))
	}
	for b := range 2 {
		if l, e := live.End(p, 0, b); e != api.OK || !slices.Equal(l, from(0, 132)) {
			t.Errorf("at the end of %d: %v, %d", b, l, e)
		}
	}
}

// several are functions of one program: of two parameters and of none, of few blocks and of more.
func several() []string {
	return []string{
		"func t3 / block / jump b1 / block / r2 t0 = add r0 r1 / return r2",
		example,
		"func t4 / block / return r3",
		"func t3 / block / return r0 / block / r2 t0 = int 1 / branch r2 b1 b0 / block / print r2 / jump b1",
	}
}

// P11.1: several functions of one program, each on its own.
func TestSeveral(t *testing.T) {
	l := several()
	p := program(t, append(l, l...)...)
	for f := range p.Funcs {
		if is, alone := told(t, p, f), told(t, program(t, l[f%len(l)]), 0); !slices.Equal(is, alone) {
			t.Errorf("the function %d: %q; alone %q", f, is, alone)
		}
	}
	mustModel(t, "several", p)
}

func mustRefuseAt(t *testing.T, what string, p api.Program, f, b, at int, want api.Errno) {
	t.Helper()
	if l, e := live.At(p, f, b, at); e != want || len(l) != 0 {
		t.Errorf("%s: At(%d, %d, %d) = %v, %d; want %d", what, f, b, at, l, e, want)
	}
}

// mustRefuse holds that of a block that is not there all that is answered is an error, whatever place is asked for.
func mustRefuse(t *testing.T, what string, p api.Program, f, b int, want api.Errno) {
	t.Helper()
	if l, e := live.End(p, f, b); e != want || len(l) != 0 {
		t.Errorf("%s: End(%d, %d) = %v, %d; want %d", what, f, b, l, e, want)
	}
	for _, at := range []int{0, 1, -1, 129, least, most} {
		mustRefuseAt(t, what, p, f, b, at, want)
	}
}

// odd is numbers of nothing, beside those that are one past the last.
func odd(more ...int) []int {
	return append(more, -1, -2, least, least+1, most, most-1, 1<<32, -1<<32, 1<<62)
}

// P11.1: an f that is no function's number, whatever block is asked of it.
func TestNoFunction(t *testing.T) {
	l := several()
	for _, p := range []api.Program{program(t, l...), program(t, l[0]), program(t, append(l, l...)...)} {
		many := len(p.Funcs)
		for _, f := range odd(many, many+1, 16, -many) {
			for _, b := range odd(0, 1, 2, 16) {
				mustRefuse(t, "no function", p, f, b, api.ErrArg)
			}
		}
		for f := range many {
			if _, e := live.End(p, f, 0); e != api.OK {
				t.Errorf("End of %d of %d: %d", f, many, e)
			}
		}
	}
}

// P11.1: a block that is none of its function's, also if it is another one's.
func TestNoBlock(t *testing.T) {
	p := program(t, several()...)
	for f, many := range []int{2, 3, 1, 3} {
		for _, b := range odd(many, many+1, 3, 4, 16, 17, -many) {
			mustRefuse(t, "no block", p, f, b, api.ErrArg)
		}
		for b := range many {
			if _, e := live.End(p, f, b); e != api.OK {
				t.Errorf("End of %d of %d: %d", b, f, e)
			}
		}
	}
}

// P11.1: a place that is none of its block's, also if it is another one's.
func TestNoPlace(t *testing.T) {
	p := program(t, several()...)
	for f, places := range [][]int{{1, 2}, {3, 3, 1}, {1}, {1, 2, 2}} {
		for b, many := range places {
			for _, at := range odd(many, many+1, 3, 128, 129, -many) {
				mustRefuseAt(t, "no place", p, f, b, at, api.ErrArg)
			}
			for at := range many {
				if _, e := live.At(p, f, b, at); e != api.OK {
					t.Errorf("at %d of %d of %d: %d", at, b, f, e)
				}
			}
		}
	}
}

// refused answers programs that shape refuses, and its errors.
func refused(t *testing.T) (l []api.Program, want []api.Errno) {
	put := func(e api.Errno, turn func(p *api.Program)) {
		p := program(t, several()...)
		turn(&p)
		l, want = append(l, p), append(want, e)
	}
	put(api.ErrShape, func(p *api.Program) { *p = api.Program{} })
	put(api.ErrShape, func(p *api.Program) { p.Funcs = nil })
	put(api.ErrShape, func(p *api.Program) { p.Funcs = slices.Repeat(p.Funcs, 3) })
	put(api.ErrShape, func(p *api.Program) { p.Types = nil })
	put(api.ErrMany, func(p *api.Program) { p.Types = make([]api.Type, 17) })
	put(api.ErrMany, func(p *api.Program) { p.Types, p.Funcs = make([]api.Type, 17), nil })
	put(api.ErrType, func(p *api.Program) { p.Types[0].Kind = 0 })
	put(api.ErrType, func(p *api.Program) { p.Types, p.Funcs = []api.Type{{Kind: 6}}, nil })
	for f := range 4 {
		put(api.ErrShape, func(p *api.Program) { p.Funcs[f].Sig = -1 })
		put(api.ErrShape, func(p *api.Program) { p.Funcs[f].Sig = 0 })
		put(api.ErrShape, func(p *api.Program) { p.Funcs[f].Blocks = nil })
		put(api.ErrShape, func(p *api.Program) { p.Funcs[f].Blocks = slices.Repeat(p.Funcs[f].Blocks[:1], 17) })
		for _, end := range []api.End{{}, {Kind: 4}, {Kind: 1, To: -1}, {Kind: 1, To: most}, {Kind: 2, Else: 16}, {Kind: 3, A: 132}, {Kind: 3, A: least}} {
			put(api.ErrShape, func(p *api.Program) { p.Funcs[f].Blocks[0].End = end })
		}
		for _, x := range []api.Ins{{}, {Op: 23}, {Op: api.OpPrint, A: -1}, {Op: api.OpAdd, B: most}, {Op: api.OpCall, Args: []int{132}},
			{Op: api.OpPhi, Args: []int{0}}, {Op: api.OpPhi, Args: []int{0}, From: []int{16}}, {Op: api.OpPhi, Args: []int{least}, From: []int{0}}} {
			put(api.ErrShape, func(p *api.Program) { p.Funcs[f].Blocks[0].Ins = []api.Ins{x} })
		}
		put(api.ErrShape, func(p *api.Program) { p.Funcs[f].Blocks[0].Ins = make([]api.Ins, 129) })
	}
	return l, want
}

// P11.1: programs that shape refuses: its error, ahead of all others.
func TestRefused(t *testing.T) {
	l, want := refused(t)
	for k, p := range l {
		if e := shape.Check(p); e != want[k] {
			t.Errorf("shape of %+v: %d; want %d", p, e, want[k])
		}
		for _, f := range []int{0, 1, 3, 4, -1, 8, least, most} {
			for _, b := range []int{0, 1, 2, -1, 16, least, most} {
				mustRefuse(t, fmt.Sprint("refused ", k), p, f, b, want[k])
			}
		}
	}
}

// roomy answers l with room behind it that holds marks.
func roomy[T any](l []T, mark T) []T {
	return append(slices.Clone(l), mark, mark)[:len(l)]
}

// eachList hands each list of a function's numbers and instructions on, and puts there what is answered.
func eachList(f *api.Func, ins func(l []api.Ins) []api.Ins, ints func(l []int) []int) {
	for b := range f.Blocks {
		f.Blocks[b].Ins = ins(f.Blocks[b].Ins)
		for k := range f.Blocks[b].Ins {
			x := &f.Blocks[b].Ins[k]
			x.Args, x.From = ints(x.Args), ints(x.From)
		}
	}
}

// wide answers p with room behind all its lists.
func wide(p api.Program) api.Program {
	p = shape.Twin(p)
	p.Types, p.Funcs = roomy(p.Types, api.Type{Kind: 77}), roomy(p.Funcs, api.Func{Sig: 77})
	for f := range p.Funcs {
		p.Funcs[f].Blocks = roomy(p.Funcs[f].Blocks, api.Block{End: api.End{Kind: 77}})
		eachList(&p.Funcs[f], func(l []api.Ins) []api.Ins { return roomy(l, api.Ins{Op: 77}) }, func(l []int) []int { return roomy(l, 77) })
	}
	return p
}

// all answers l in new memory, with what stands in the room behind it as part of it.
func all[T any](l []T) []T { return slices.Clone(l[:cap(l)]) }

// whole answers p in new memory, with what stands in the room behind its lists as part of them.
func whole(p api.Program) api.Program {
	p.Types, p.Funcs = all(p.Types), all(p.Funcs)
	for f := range p.Funcs {
		p.Funcs[f].Blocks = all(p.Funcs[f].Blocks)
		eachList(&p.Funcs[f], all, all)
	}
	return p
}

// askAll asks of everything in p, and of what is not there.
func askAll(p api.Program) {
	for f := -1; f <= len(p.Funcs); f++ {
		for b := -1; b <= 4; b++ {
			live.End(p, f, b)
			for at := -1; at <= 4; at++ {
				live.At(p, f, b, at)
			}
		}
	}
}

// P11.2: what is handed in is only read, also behind the ends of its lists.
func TestOnlyRead(t *testing.T) {
	l, _ := refused(t)
	for _, p := range append(l, program(t, several()...)) {
		p = wide(p)
		held, with := shape.Twin(p), whole(p)
		askAll(p)
		if !shape.Same(p, held) || !reflect.DeepEqual(whole(p), with) {
			t.Errorf("what was handed in, %+v, is %+v", held, p)
		}
	}
}

// P11.2: a list that is answered is new memory: apart from another answer, and from the program, also from lists of that which are alike.
func TestNew(t *testing.T) {
	p := wide(program(t, "func t3 / block / r2 t0 = call f0 r0 r1 / branch r2 b1 b2 / block / r3 t0 = phi b0 r0 b1 r1 / jump b1 / block / return r0"))
	held, before := whole(p), told(t, p, 0)
	for what, ask := range map[string]func() []int{
		"At":                    func() []int { l, _ := live.At(p, 0, 0, 0); return l },
		"At, ahead of the end":  func() []int { l, _ := live.At(p, 0, 0, 1); return l },
		"End":                   func() []int { l, _ := live.End(p, 0, 0); return l },
		"End of the other one":  func() []int { l, _ := live.End(p, 0, 1); return l },
		"At, of the last block": func() []int { l, _ := live.At(p, 0, 2, 0); return l },
	} {
		l, other := ask(), ask()
		was := slices.Clone(other)
		for k := range l[:cap(l)] {
			l[:cap(l)][k] = 77
		}
		if len(l) == 0 || !slices.Equal(other, was) || !slices.Equal(ask(), was) || !reflect.DeepEqual(whole(p), held) {
			t.Errorf("%s: %v is %v, and then %v, of %+v", what, was, other, ask(), p)
		}
	}
	if again := told(t, p, 0); !slices.Equal(again, before) {
		t.Errorf("%q, and then %q", before, again)
	}
	l, _ := live.At(p, 0, 0, 0)
	p.Funcs[0].Blocks[0].Ins[0].Args[0] = 1 // what was told stays as it is
	p.Funcs[0].Blocks[1].Ins[0].Args[0] = 1
	if !slices.Equal(l, []int{0, 1}) {
		t.Errorf("what was told is %v", l)
	}
}

// endsOf answers all ends of a block of a function of so many blocks and registers.
func endsOf(blocks, regs int) []api.End {
	var l []api.End
	for to := range blocks {
		l = append(l, api.End{Kind: api.EndJump, To: to})
		for a := range regs {
			for other := range blocks {
				l = append(l, api.End{Kind: api.EndBranch, A: a, To: to, Else: other})
			}
		}
	}
	for a := range regs {
		l = append(l, api.End{Kind: api.EndReturn, A: a})
	}
	return l
}

// insOf answers instructions of such a function: one that reads nothing, and those that read each register, here or at a block's end.
func insOf(blocks, regs int) []api.Ins {
	l := []api.Ins{{Op: api.OpInt}}
	for a := range regs {
		l = append(l, api.Ins{Op: api.OpPrint, A: a})
		for b := range blocks {
			l = append(l, api.Ins{Op: api.OpPhi, Args: []int{a}, From: []int{b}})
		}
	}
	return l
}

// P11.1, P11.3: all functions of two blocks with these ends, and these instructions, one in each block; and, with both of them in the first one, of one block.
func TestAllSmall(t *testing.T) {
	p := program(t, "func t2 / block / jump b0")
	for _, one := range insOf(2, 2) {
		for _, other := range insOf(2, 2) {
			for _, end := range endsOf(2, 2) {
				for _, last := range endsOf(2, 2) {
					p.Funcs[0].Blocks = []api.Block{{Ins: []api.Ins{one}, End: end}, {Ins: []api.Ins{other}, End: last}}
					mustModel(t, "of two blocks", p)
				}
			}
		}
	}
	for _, one := range insOf(1, 2) {
		for _, other := range insOf(1, 2) {
			for _, end := range endsOf(1, 2) {
				p.Funcs[0].Blocks = []api.Block{{Ins: []api.Ins{one, other}, End: end}}
				mustModel(t, "of one block", p)
			}
		}
	}
}

// chance is numbers that come out alike each time.
type chance uint64

func (c *chance) next(below int) int {
	*c = *c*6364136223846793005 + 1442695040888963407
	return int((uint64(*c) >> 33) % uint64(below))
}

// some answers numbers below a bound.
func (c *chance) some(many, below int) []int {
	var l []int
	for range many {
		l = append(l, c.next(below))
	}
	return l
}

// end answers an end: most of them are branches.
func (c *chance) end(blocks, regs int) api.End {
	switch c.next(5) {
	case 0:
		return api.End{Kind: api.EndReturn, A: c.next(regs)}
	case 1:
		return api.End{Kind: api.EndJump, To: c.next(blocks)}
	}
	return api.End{Kind: api.EndBranch, A: c.next(regs), To: c.next(blocks), Else: c.next(blocks)}
}

// ins answers an instruction of a block to which preds go.
func (c *chance) ins(blocks, regs int, preds []int) api.Ins {
	a, b := c.next(regs), c.next(regs)
	switch c.next(9) {
	case 0:
		return api.Ins{Op: api.OpStore, A: a, B: b}
	case 1:
		return api.Ins{Op: api.OpPrint, A: a}
	case 2:
		return api.Ins{Op: api.OpICall, A: a, Args: c.some(c.next(5), regs)}
	case 3:
		return api.Ins{Op: api.OpElem, A: a, B: b}
	case 4:
		many := 1 + c.next(3)
		return api.Ins{Op: api.OpPhi, Args: c.some(many, regs), From: c.some(many, blocks)}
	case 5:
		if len(preds) > 0 {
			return api.Ins{Op: api.OpPhi, Args: c.some(len(preds), regs), From: preds}
		}
	}
	return api.Ins{Op: api.OpRead}
}

// function answers a function of that type, with so many parameters, and at least one instruction.
func (c *chance) function(sig, params, blocks, each int) api.Func {
	many := make([]int, blocks)
	regs := params
	for b := range many {
		many[b] = c.next(each + 1)
		if b == 0 {
			many[b]++
		}
		regs += many[b]
	}
	f := api.Func{Sig: sig, Blocks: make([]api.Block, blocks)}
	for b := range many {
		f.Blocks[b].End = c.end(blocks, regs)
	}
	for b := range many {
		var preds []int
		for k := range f.Blocks {
			if slices.Contains(next(f.Blocks[k]), b) {
				preds = append(preds, k)
			}
		}
		for range many[b] {
			f.Blocks[b].Ins = append(f.Blocks[b].Ins, c.ins(blocks, regs, preds))
		}
	}
	return f
}

// P11.1, P11.3: functions by the thousand, of few blocks and of the most, some in one program.
func TestMixed(t *testing.T) {
	c := chance(11)
	p := program(t, "func t2 / block / jump b0")
	for k := range 600 {
		blocks, each := 1+c.next(5), 3
		if k%20 == 0 {
			blocks, each = api.MaxBlocks, 2
		}
		p.Funcs = []api.Func{c.function(2, 0, blocks, each), c.function(3, 2, blocks, each), c.function(4, 4, blocks, each)}
		if e := shape.Check(p); e != api.OK {
			t.Fatalf("of %+v: %d", p, e)
		}
		mustModel(t, "mixed", p)
	}
}

// P1: nothing is kept from call to call, whatever is asked between; each call ends, also of lists that are far too long.
func TestAgain(t *testing.T) {
	p := program(t, several()...)
	var before [][]string
	for f := range p.Funcs {
		before = append(before, told(t, p, f))
	}
	for range 3 {
		askAll(program(t, "func t3 / block / r2 t0 = add r0 r1 / branch r2 b0 b0"))
		mustRefuse(t, "no block", p, 0, 7, api.ErrArg)
		mustRefuse(t, "no program", api.Program{}, 0, 0, api.ErrShape)
		for f := range p.Funcs {
			if again := told(t, p, f); !slices.Equal(again, before[f]) {
				t.Errorf("%q, and then %q", before[f], again)
			}
		}
	}
	p.Funcs[0].Blocks = make([]api.Block, 1_000_000)
	mustRefuse(t, "too many blocks", p, 0, 0, api.ErrShape)
	p.Funcs = make([]api.Func, 1_000_000)
	mustRefuse(t, "too many functions", p, 999_999, 0, api.ErrShape)
	p.Types = make([]api.Type, 1_000_000)
	mustRefuse(t, "too many types", p, 0, 0, api.ErrMany)
}
