package sound_test

import (
	"fmt"
	"math"
	"reflect"
	"slices"
	"strings"
	"testing"

	"fescue/api"
	"fescue/dom"
	"fescue/flow"
	"fescue/live"
	"fescue/read"
	"fescue/shape"
	"fescue/sound"
)

const (
	least = math.MinInt
	most  = math.MaxInt
)

// table is the types of most programs here: t0 to t9 are what most of them need; t10 and t11 are another int and what points to it; t12 and t13 are as t1 and t2, but others; t15 points to itself.
const table = "type int / type ptr t0 / type fn t0 / type struct t0 t1 t2 / type array t3 4" +
	" / type ptr t3 / type ptr t4 / type ptr t1 / type ptr t2 / type fn t1 t0 t1" +
	" / type int / type ptr t10 / type ptr t0 / type fn t0 / type fn t10 t10 t1 t9 t0 / type ptr t15"

// programOf answers the program of these types' and functions' lines, which are parted by a /.
func programOf(t *testing.T, types string, l ...string) api.Program {
	t.Helper()
	p, e := read.Read(strings.ReplaceAll(strings.Join(append([]string{types}, l...), " / "), "/", "\n"))
	if e != api.OK {
		t.Fatalf("%v is no program: %d", l, e)
	}
	return p
}

func program(t *testing.T, l ...string) api.Program {
	t.Helper()
	return programOf(t, table, l...)
}

// model is a function of a program, by the chapter's words.
type model struct {
	p     api.Program
	f     int
	types []int // of each register, -1 of one that has none
}

func modelOf(p api.Program, f int) model {
	m := model{p: p, f: f}
	regs, _ := shape.Regs(p, f)
	for r := range regs {
		b, at, _ := shape.Place(p, f, r)
		k := -1
		if b < 0 {
			k = p.Types[p.Funcs[f].Sig].Parts[at]
		} else if x := p.Funcs[f].Blocks[b].Ins[at]; x.Op != 13 && x.Op != 17 && x.Op != 21 {
			k = x.Type
		}
		m.types = append(m.types, k)
	}
	return m
}

// modelled tells by the chapter's words what Check answers, and which of its rules is broken.
func modelled(p api.Program) (api.Errno, string) {
	if e := shape.Check(p); e != api.OK {
		return e, "shape"
	}
	if sig := p.Types[p.Funcs[0].Sig]; len(sig.Parts) != 0 || p.Types[sig.Elem].Kind != 1 {
		return api.ErrForm, "function 0"
	}
	for f := range p.Funcs {
		if broken := modelOf(p, f).broken(); broken != "" {
			return api.ErrForm, broken
		}
	}
	return api.OK, ""
}

// broken tells which rule is broken in a function; none, if all hold.
func (m model) broken() string {
	l := m.p.Funcs[m.f].Blocks
	if reach, _ := flow.Reach(m.p, m.f); len(reach) != len(l) {
		return "reached"
	}
	for b, x := range l {
		if next, _ := flow.Next(m.p, m.f, b); slices.Contains(next, 0) {
			return "block 0"
		}
		phis := 0
		for phis < len(x.Ins) && x.Ins[phis].Op == 22 {
			phis++
		}
		for at, i := range x.Ins {
			if broken := m.brokenBy(i, b, at, phis); broken != "" {
				return broken
			}
		}
		if broken := m.brokenByEnd(x.End, b, len(x.Ins)); broken != "" {
			return broken
		}
	}
	return ""
}

// brokenBy tells which rule is broken by an instruction of a block that has so many phis at its beginning.
func (m model) brokenBy(i api.Ins, b, at, phis int) string {
	if i.Op == 22 {
		if at >= phis {
			return "phis ahead"
		}
		if preds, _ := flow.Preds(m.p, m.f, b); !slices.Equal(i.From, preds) {
			return "From"
		}
		for n, r := range i.Args {
			if is, _ := dom.Set(m.p, m.f, r, i.From[n], len(m.p.Funcs[m.f].Blocks[i.From[n]].Ins)); !is {
				return "set, of a phi"
			}
		}
	} else {
		for _, r := range shape.Uses(i) {
			if is, _ := dom.Set(m.p, m.f, r, b, at); !is {
				return "set"
			}
		}
	}
	for _, r := range shape.Uses(i) {
		if m.types[r] < 0 {
			return "no type"
		}
	}
	if !m.row(i) {
		return fmt.Sprint("row ", i.Op)
	}
	return ""
}

func (m model) brokenByEnd(x api.End, b, at int) string {
	if x.Kind == 1 {
		return ""
	}
	if is, _ := dom.Set(m.p, m.f, x.A, b, at); !is {
		return "set, of an end"
	}
	if m.types[x.A] < 0 {
		return "no type, of an end"
	}
	if x.Kind == 2 && m.kind(m.types[x.A]) != 1 {
		return "branch"
	}
	if x.Kind == 3 && m.types[x.A] != m.p.Types[m.p.Funcs[m.f].Sig].Elem {
		return "return"
	}
	return ""
}

func (m model) kind(k int) uint8 { return m.p.Types[k].Kind }

// row tells whether an instruction reads, and answers, what the chapter's table has of it.
func (m model) row(i api.Ins) bool {
	var a, b api.Type // the types of A and B, and what they point to
	var toA api.Type
	var args []int
	for _, r := range i.Args {
		args = append(args, m.types[r])
	}
	if uses := shape.Uses(i); len(uses) > len(args) {
		a = m.p.Types[m.types[i.A]]
		toA = m.p.Types[a.Elem]
		if len(uses) == 2 && len(args) == 0 {
			b = m.p.Types[m.types[i.B]]
		}
	}
	is := m.p.Types[i.Type]
	switch i.Op {
	case 1, 20:
		return is.Kind == 1
	case 2:
		return is.Kind == 2 || is.Kind == 3
	case 3:
		return i.Type == m.p.Funcs[i.N].Sig
	case 4, 5, 6, 7, 8, 9:
		return a.Kind == 1 && b.Kind == 1 && is.Kind == 1
	case 10:
		return a.Kind == 2 && m.types[i.A] == m.types[i.B] && is.Kind == 1
	case 11, 12:
		return is.Kind == 2
	case 13:
		return a.Kind == 2
	case 21:
		return a.Kind == 1
	case 14:
		return a.Kind == 2 && toA.Kind == 4 && int(i.N) < len(toA.Parts) && is.Kind == 2 && is.Elem == toA.Parts[i.N]
	case 15:
		return a.Kind == 2 && toA.Kind == 5 && b.Kind == 1 && is.Kind == 2 && is.Elem == toA.Elem
	case 16:
		return a.Kind == 2 && toA.Kind <= 3 && i.Type == a.Elem
	case 17:
		return a.Kind == 2 && toA.Kind <= 3 && m.types[i.B] == a.Elem
	case 18:
		sig := m.p.Types[m.p.Funcs[i.N].Sig]
		return slices.Equal(args, sig.Parts) && i.Type == sig.Elem
	case 19:
		return a.Kind == 3 && slices.Equal(args, a.Parts) && i.Type == a.Elem
	case 22:
		return is.Kind <= 3 && len(slices.DeleteFunc(args, func(k int) bool { return k == i.Type })) == 0
	}
	return false
}

// mustBe holds what Check answers against what is wanted, and against the model; and what follows.
func mustBe(t *testing.T, what string, p api.Program, want api.Errno) {
	t.Helper()
	if e := sound.Check(p); e != want {
		t.Errorf("%s: %d; want %d", what, e, want)
	}
	mustModel(t, what, p)
}

// mustModel holds what Check answers against the model, and tells which rule is broken.
func mustModel(t *testing.T, what string, p api.Program) string {
	t.Helper()
	want, broken := modelled(p)
	e := sound.Check(p)
	if e != want {
		t.Errorf("%s: of %+v: %d; want %d, %s", what, p, e, want, broken)
	}
	if e == api.OK {
		mustFollow(t, what, p)
	}
	return broken
}

// mustFollow holds P12.4 of a program that is well formed, and what Kind tells of all its registers.
func mustFollow(t *testing.T, what string, p api.Program) {
	t.Helper()
	for f, x := range p.Funcs {
		for r, want := range modelOf(p, f).types {
			k, e := sound.Kind(p, f, r)
			if want < 0 && (e != api.ErrNone || k != 0) || want >= 0 && (e != api.OK || k != want) {
				t.Errorf("%s: of %+v: Kind(%d, %d) = %d, %d; want %d", what, p, f, r, k, e, want)
			}
			if e == api.OK && (k < 0 || k >= len(p.Types) || p.Types[k].Kind < 1 || p.Types[k].Kind > 3) {
				t.Errorf("%s: of %+v: Kind(%d, %d) = %d, which is no scalar", what, p, f, r, k)
			}
		}
		for b := range x.Blocks {
			for at := range len(x.Blocks[b].Ins) + 1 {
				l, _ := live.At(p, f, b, at)
				for _, r := range l {
					if is, e := dom.Set(p, f, r, b, at); !is || e != api.OK {
						t.Errorf("%s: of %+v: %d lives at %d of %d, but is not set there", what, x, r, at, b)
					}
				}
			}
		}
	}
}

// well holds that of some functions' lines the program is well formed, or is not.
func well(t *testing.T, what string, l ...string) {
	t.Helper()
	mustBe(t, what, program(t, l...), api.OK)
}

func ill(t *testing.T, what string, l ...string) {
	t.Helper()
	mustBe(t, what, program(t, l...), api.ErrForm)
}

// own is the text of chapter 7's example, which is the program of chapter 6's, but for its types.
const own = "func t1 / block / r0 t0 = int 5 / jump b1 / block / r1 t0 = add r0 r0 / return r1"

// P12.1, P12.2: the document's example.
func TestExample(t *testing.T) {
	p := programOf(t, "type int / type fn t0", own)
	mustBe(t, "the example", p, api.OK)
	p.Funcs[0].Blocks[1].Ins[0].A, p.Funcs[0].Blocks[1].Ins[0].B = 1, 1
	mustBe(t, "the example, of registers 1, 1", p, api.ErrForm)
	for r := range 2 {
		if k, e := sound.Kind(p, 0, r); k != 0 || e != api.ErrForm {
			t.Errorf("Kind of %d: %d, %d", r, k, e)
		}
	}
}

// others are functions that most programs here have behind function 0: of the types t9, t14 and t2.
func others() []string {
	return []string{"func t9 / block / return r1", "func t14 / block / return r0", "func t2 / block / r0 t0 = int 1 / return r0"}
}

// P12.1: function 0 has no parameters, and answers an int; others may have them, and answer whatever scalar.
func TestFirstFunction(t *testing.T) {
	for text, want := range map[string]api.Errno{
		"type int / type fn t0 / func t1 / block / r0 t0 = int 1 / return r0":                             api.OK,
		"type int / type int / type fn t1 / func t2 / block / r0 t1 = int 1 / return r0":                  api.OK,
		"type fn t1 / type int / func t0 / block / r0 t1 = int 1 / return r0":                             api.OK,
		"type int / type fn t0 t0 / func t1 / block / r1 t0 = int 1 / return r1":                          api.ErrForm,
		"type int / type fn t0 t0 / func t1 / block / return r0":                                          api.ErrForm,
		"type int / type fn t0 t0 t0 t0 t0 / func t1 / block / r4 t0 = int 1 / return r4":                 api.ErrForm,
		"type int / type ptr t0 / type fn t1 / func t2 / block / r0 t1 = new / return r0":                 api.ErrForm,
		"type int / type fn t1 / func t1 / block / r0 t1 = null / return r0":                              api.ErrForm,
		"type int / type fn t0 / type fn t1 / func t2 / block / r0 t1 = null / return r0":                 api.ErrForm,
		"type int / type ptr t0 / type fn t1 t1 / func t2 / block / return r0":                            api.ErrForm,
		"type int / type fn t0 / func t1 / block / r0 t0 = int 1 / jump b1 / block / jump b1":             api.OK,
		"type int / type fn t0 / func t1 / block / jump b1 / block / jump b2 / block / jump b1":           api.OK,
		"type int / type fn t0 t0 / func t1 / block / jump b1 / block / jump b1":                          api.ErrForm,
		"type int / type ptr t0 / type fn t1 / func t2 / block / jump b1 / block / jump b1":               api.ErrForm,
		"type int / type fn t0 / func t1 / block / r0 t0 = int 1 / return r0 / func t1 / block / jump b0": api.ErrForm,
	} {
		mustBe(t, text, programOf(t, text), want)
	}
	well(t, "others with parameters", append([]string{"func t2 / block / r0 t0 = int 1 / return r0"}, others()...)...)
	well(t, "one that answers a pointer to itself", "func t2 / block / r0 t0 = int 1 / return r0", "func t9 / block / r2 t1 = call f1 r0 r1 / return r2")
	ill(t, "one with parameters first", "func t9 / block / return r1", "func t2 / block / r0 t0 = int 1 / return r0")
}

// everywhere answers functions as function 0, and as another one, of none of whose registers something is asked beside.
func everywhere(function string) [][]string {
	first := "func t2 / block / r0 t0 = int 1 / return r0"
	return [][]string{{function}, {function, first}, {first, function}, {first, first, function, first}}
}

func wellEverywhere(t *testing.T, what, function string) {
	t.Helper()
	for _, l := range everywhere(function) {
		well(t, what, l...)
	}
}

func illEverywhere(t *testing.T, what, function string) {
	t.Helper()
	for _, l := range everywhere(function) {
		ill(t, what, l...)
	}
}

// P12.1: each block is reached, and none goes to block 0.
func TestBlocks(t *testing.T) {
	value := "func t2 / block / r0 t0 = int 1"
	wellEverywhere(t, "one block", value+" / return r0")
	wellEverywhere(t, "a row", value+" / jump b1 / block / jump b2 / block / return r0")
	wellEverywhere(t, "a row back", value+" / jump b2 / block / return r0 / block / jump b1")
	wellEverywhere(t, "ways that meet", value+" / branch r0 b1 b2 / block / jump b3 / block / jump b3 / block / return r0")
	wellEverywhere(t, "ways that don't meet", value+" / branch r0 b1 b2 / block / return r0 / block / return r0")
	wellEverywhere(t, "a branch whose Else is its To", value+" / branch r0 b1 b1 / block / return r0")
	wellEverywhere(t, "a round of one", value+" / jump b1 / block / branch r0 b1 b2 / block / return r0")
	wellEverywhere(t, "a round of one without an end", value+" / jump b1 / block / jump b1")
	wellEverywhere(t, "a round of two", value+" / jump b1 / block / jump b2 / block / branch r0 b1 b3 / block / return r0")
	wellEverywhere(t, "a round that is come to at both", value+" / branch r0 b1 b2 / block / jump b2 / block / jump b1")
	illEverywhere(t, "one that none goes to", value+" / return r0 / block / return r0")
	illEverywhere(t, "one that none goes to, in the midst", value+" / jump b2 / block / jump b2 / block / return r0")
	illEverywhere(t, "one that only itself goes to", value+" / return r0 / block / jump b1")
	illEverywhere(t, "a round that is not reached", value+" / return r0 / block / jump b2 / block / branch r0 b1 b2")
	illEverywhere(t, "one that such a one goes to", value+" / return r0 / block / jump b2 / block / return r0")
	illEverywhere(t, "a jump to itself", value+" / jump b0")
	illEverywhere(t, "a jump to block 0", value+" / jump b1 / block / jump b0")
	illEverywhere(t, "a branch to block 0", value+" / jump b1 / block / branch r0 b0 b2 / block / return r0")
	illEverywhere(t, "a branch to block 0, by its Else", value+" / jump b1 / block / branch r0 b2 b0 / block / return r0")
	illEverywhere(t, "a branch of block 0 to itself", value+" / branch r0 b0 b1 / block / return r0")
	illEverywhere(t, "one that is not reached, and goes to block 0", value+" / return r0 / block / jump b0")
	illEverywhere(t, "one that is not reached, and reads what is not there", "func t2 / block / r0 t0 = int 1 / return r0 / block / return r0")
}

// loop is a function with a round: its phis are r3, a sum, and r4, a pointer.
const loop = "func t2 / block / r0 t0 = int 0 / r1 t0 = int 10 / r2 t1 = new / jump b1" +
	" / block / r3 t0 = phi b0 r0 b2 r7 / r4 t1 = phi b0 r2 b2 r8 / r5 t0 = less r3 r1 / branch r5 b2 b3" +
	" / block / r6 t0 = int 1 / r7 t0 = add r3 r6 / r8 t1 = local / store r8 r7 / jump b1" +
	" / block / r10 t0 = load r4 / print r10 / return r10"

// meet is a function with ways that meet, at a phi of functions; its parts are pointed to, and loaded.
const meet = "func t2 / block / r0 t0 = read / branch r0 b1 b2 / block / r1 t2 = fn f0 / jump b3 / block / r2 t2 = null / jump b3" +
	" / block / r3 t2 = phi b1 r1 b2 r2 / r4 t0 = icall r3 / r5 t6 = new / r6 t5 = elem r5 r4 / r7 t7 = field r6 1 / r8 t1 = load r7" +
	" / r9 t0 = same r8 r8 / free r5 / return r9"

// many is functions that call each other, by name and by register.
func many() []string {
	return []string{
		"func t2 / block / r0 t0 = int 1 / r1 t1 = null / r2 t1 = call f1 r0 r1 / r3 t9 = fn f1 / r4 t1 = icall r3 r0 r2" +
			" / r5 t10 = int 2 / r6 t10 = call f2 r5 r4 r3 r0 / r7 t0 = mul r6 r0 / return r7",
		"func t9 / block / r2 t0 = same r1 r1 / branch r2 b1 b2 / block / r3 t1 = call f1 r0 r1 / return r3 / block / free r1 / return r1",
		"func t14 / block / branch r0 b1 b2 / block / r4 t1 = icall r2 r3 r1 / jump b2 / block / r5 t1 = phi b0 r1 b1 r4 / store r5 r3 / return r0",
	}
}

// P12.1: programs with all of it.
func TestWhole(t *testing.T) {
	wellEverywhere(t, "a round", loop)
	wellEverywhere(t, "ways that meet", meet)
	well(t, "calls", many()...)
	well(t, "all", append([]string{loop, "func t9 / block / return r1", "func t14 / block / return r0"}, meet)...)
	well(t, "most functions", meet, loop, meet, loop, loop, meet, meet, loop)
	ill(t, "one of most functions", meet, loop, meet, loop, loop, meet, meet, strings.Replace(loop, "r7 t0 = add r3 r6", "r7 t0 = add r7 r6", 1))
}

// mustTurn holds that a function is well formed, and with one text in it in another one's place it is as wanted.
func mustTurn(t *testing.T, function, from, to string, want api.Errno) {
	t.Helper()
	if strings.Count(function, from) != 1 {
		t.Fatalf("%q stands %d times in %s", from, strings.Count(function, from), function)
	}
	wellEverywhere(t, "as it is", function)
	for _, l := range everywhere(strings.Replace(function, from, to, 1)) {
		mustBe(t, from+" is "+to, program(t, l...), want)
	}
}

// P12.1: phis stand ahead of all other instructions of their block.
func TestPhisAhead(t *testing.T) {
	head := "func t2 / block / r0 t0 = int 1 / jump b1 / block"
	wellEverywhere(t, "one", head+" / r1 t0 = phi b0 r0 / return r1")
	wellEverywhere(t, "two", head+" / r1 t0 = phi b0 r0 / r2 t0 = phi b0 r0 / return r2")
	wellEverywhere(t, "two, ahead of others", head+" / r1 t0 = phi b0 r0 / r2 t0 = phi b0 r0 / r3 t0 = add r1 r2 / print r3 / return r2")
	illEverywhere(t, "behind another one", head+" / r1 t0 = int 2 / r2 t0 = phi b0 r0 / return r2")
	illEverywhere(t, "behind one that answers nothing", head+" / print r0 / r2 t0 = phi b0 r0 / return r2")
	illEverywhere(t, "one ahead, one behind", head+" / r1 t0 = phi b0 r0 / print r1 / r3 t0 = phi b0 r0 / return r3")
	illEverywhere(t, "two behind", head+" / print r0 / r2 t0 = phi b0 r0 / r3 t0 = phi b0 r0 / return r3")
}

// P12.1: a phi's From are just the blocks that go to its block, rising.
func TestPhisFrom(t *testing.T) {
	for _, from := range []string{"b0 r0", "b2 r7", "b2 r7 b0 r0", "b0 r0 b0 r0", "b0 r0 b2 r7 b2 r7", "b0 r0 b0 r0 b2 r7", "b0 r0 b1 r3", "b0 r0 b1 r3 b2 r7", "b0 r0 b2 r7 b3 r10", "b1 r3", "b3 r0", "b0 r0 b3 r7", "b1 r0 b2 r7"} {
		mustTurn(t, loop, "b0 r0 b2 r7", from, api.ErrForm)
	}
	mustTurn(t, meet, "b1 r1 b2 r2", "b2 r2 b1 r1", api.ErrForm)
	mustTurn(t, meet, "b1 r1 b2 r2", "b1 r1", api.ErrForm)
	mustTurn(t, meet, "b1 r1 b2 r2", "b2 r2", api.ErrForm)
	value := "func t2 / block / r0 t0 = int 1"
	illEverywhere(t, "in block 0", "func t2 / block / r0 t0 = phi b0 r0 / return r0")
	illEverywhere(t, "in block 0, of one that is behind", "func t2 / block / r0 t0 = phi b1 r1 / jump b1 / block / r1 t0 = int 1 / return r1")
	illEverywhere(t, "in block 0, that one goes to", "func t2 / block / r0 t0 = phi b1 r1 / jump b1 / block / r1 t0 = int 1 / branch r1 b0 b1")
	wellEverywhere(t, "a branch whose Else is its To, once", value+" / branch r0 b1 b1 / block / r1 t0 = phi b0 r0 / return r1")
	illEverywhere(t, "a branch whose Else is its To, twice", value+" / branch r0 b1 b1 / block / r1 t0 = phi b0 r0 b0 r0 / return r1")
	wellEverywhere(t, "a round of one", value+" / jump b1 / block / r1 t0 = phi b0 r0 b1 r1 / branch r1 b1 b2 / block / return r1")
	illEverywhere(t, "a round of one, but for itself", value+" / jump b1 / block / r1 t0 = phi b0 r0 / branch r1 b1 b2 / block / return r1")
	illEverywhere(t, "a round of one, of itself alone", value+" / jump b1 / block / r1 t0 = phi b1 r1 / branch r1 b1 b2 / block / return r1")
	wellEverywhere(t, "one block behind", value+" / jump b2 / block / r1 t0 = phi b2 r0 / return r1 / block / jump b1")
	illEverywhere(t, "a block that does not go there", value+" / branch r0 b1 b2 / block / return r0 / block / r1 t0 = phi b1 r0 / return r1")
}

// P12.1: each register that a phi reads is set at the end of the block beside it.
func TestPhisSet(t *testing.T) {
	for to, want := range map[string]api.Errno{
		"b0 r0 b2 r3": api.OK, "b0 r0 b2 r5": api.OK, "b0 r0 b2 r6": api.OK, "b0 r0 b2 r0": api.OK, "b0 r1 b2 r1": api.OK,
		"b0 r3 b2 r7": api.ErrForm, "b0 r7 b2 r7": api.ErrForm, "b0 r5 b2 r7": api.ErrForm, "b0 r10 b2 r7": api.ErrForm, "b0 r0 b2 r10": api.ErrForm, "b0 r7 b2 r0": api.ErrForm,
	} {
		mustTurn(t, loop, "b0 r0 b2 r7", to, want)
	}
	mustTurn(t, meet, "b1 r1 b2 r2", "b1 r2 b2 r1", api.ErrForm)
	mustTurn(t, meet, "b1 r1 b2 r2", "b1 r1 b2 r1", api.ErrForm)
	mustTurn(t, meet, "b1 r1 b2 r2", "b1 r1 b2 r3", api.ErrForm)
	value := "func t2 / block / r0 t0 = int 1 / jump b1 / block"
	wellEverywhere(t, "phis of each other", value+" / r1 t0 = phi b0 r0 b1 r2 / r2 t0 = phi b0 r0 b1 r1 / branch r1 b1 b2 / block / return r2")
	illEverywhere(t, "a phi of the same block, from ahead", value+" / r1 t0 = phi b0 r0 b1 r2 / r2 t0 = phi b0 r1 b1 r1 / branch r1 b1 b2 / block / return r2")
	wellEverywhere(t, "the last one of its own block", value+" / r1 t0 = phi b0 r0 b1 r3 / r2 t0 = int 1 / r3 t0 = int 2 / branch r1 b1 b2 / block / return r2")
	wellEverywhere(t, "the last one of the block ahead", "func t2 / block / r0 t0 = int 1 / r1 t0 = int 1 / jump b1 / block / r2 t0 = phi b0 r1 / return r2")
	wellEverywhere(t, "one of far ahead", value+" / jump b2 / block / jump b3 / block / r1 t0 = phi b2 r0 / return r1")
	illEverywhere(t, "one of the block that it stands in, of no round", value+" / r1 t0 = phi b0 r2 / r2 t0 = int 1 / return r1")
	illEverywhere(t, "itself, of no round", value+" / r1 t0 = phi b0 r1 / return r1")
	well(t, "a parameter", "func t2 / block / r0 t0 = int 1 / return r0", "func t9 / block / jump b1 / block / r2 t1 = phi b0 r1 / return r2")
}

// P12.1: each register that is read where it stands is set there.
func TestSet(t *testing.T) {
	illEverywhere(t, "by its own instruction", "func t2 / block / r0 t0 = int 1 / r1 t0 = add r1 r0 / return r0")
	illEverywhere(t, "by its own instruction, as the other one", "func t2 / block / r0 t0 = int 1 / r1 t0 = add r0 r1 / return r0")
	illEverywhere(t, "ahead of its own instruction", "func t2 / block / r0 t0 = int 1 / print r2 / r2 t0 = int 1 / return r0")
	illEverywhere(t, "ahead of its own block", "func t2 / block / r0 t0 = int 1 / print r2 / jump b1 / block / r2 t0 = int 1 / return r0")
	illEverywhere(t, "by a round", "func t2 / block / r0 t0 = int 1 / jump b1 / block / print r2 / r2 t0 = int 1 / branch r0 b1 b2 / block / return r0")
	illEverywhere(t, "by a round of two", "func t2 / block / r0 t0 = int 1 / jump b1 / block / print r2 / jump b2 / block / r2 t0 = int 1 / branch r0 b1 b3 / block / return r0")
	illEverywhere(t, "past its block", "func t2 / block / r0 t0 = int 1 / branch r0 b1 b2 / block / r1 t0 = int 1 / jump b2 / block / print r1 / return r0")
	illEverywhere(t, "of one way, where both meet", "func t2 / block / r0 t0 = int 1 / branch r0 b1 b2 / block / r1 t0 = int 1 / jump b3 / block / jump b3 / block / print r1 / return r0")
	illEverywhere(t, "of one way, on the other", "func t2 / block / r0 t0 = int 1 / branch r0 b1 b2 / block / r1 t0 = int 1 / return r1 / block / print r1 / return r0")
	illEverywhere(t, "of a way back", "func t2 / block / r0 t0 = int 1 / jump b2 / block / print r2 / return r0 / block / branch r0 b1 b3 / block / r2 t0 = int 1 / jump b1")
	wellEverywhere(t, "of the same block", "func t2 / block / r0 t0 = int 1 / print r0 / r2 t0 = add r0 r0 / print r2 / return r2")
	wellEverywhere(t, "of a block that rules, with a greater number", "func t2 / block / jump b2 / block / print r1 / return r1 / block / r1 t0 = int 1 / jump b1")
	wellEverywhere(t, "of all that rule", "func t2 / block / r0 t0 = int 1 / jump b1 / block / r1 t0 = int 1 / jump b2 / block / r2 t0 = int 1 / jump b3 / block / r3 t0 = add r0 r1 / r4 t0 = add r3 r2 / return r4")
	wellEverywhere(t, "within a round", "func t2 / block / r0 t0 = int 1 / jump b1 / block / r1 t0 = int 1 / branch r0 b2 b3 / block / print r1 / jump b1 / block / return r1")
	wellEverywhere(t, "past a block without an instruction", "func t2 / block / jump b1 / block / r0 t0 = int 1 / jump b2 / block / jump b3 / block / return r0")
	well(t, "a parameter, everywhere", "func t2 / block / r0 t0 = int 1 / return r0",
		"func t9 / block / print r0 / jump b1 / block / print r0 / free r1 / branch r0 b1 b2 / block / return r1")
	for _, text := range []string{"sub r1 r0", "mul r0 r1", "div r1 r1", "less r1 r0", "eq r0 r1", "phi b0 r1", "call f0 r1", "icall r1", "load r1", "same r1 r1", "field r1 0", "elem r1 r0"} {
		illEverywhere(t, text, "func t2 / block / r0 t0 = int 1 / r1 t0 = "+text+" / return r0")
	}
}

// P12.1: an end reads at its block's end, and there what it reads is to be set.
func TestEndsSet(t *testing.T) {
	wellEverywhere(t, "the last one of its block", "func t2 / block / r0 t0 = int 1 / r1 t0 = int 2 / return r1")
	wellEverywhere(t, "a branch, of its block", "func t2 / block / r0 t0 = int 1 / branch r0 b1 b1 / block / return r0")
	wellEverywhere(t, "of a block that rules", "func t2 / block / r0 t0 = int 1 / jump b1 / block / branch r0 b2 b3 / block / return r0 / block / return r0")
	illEverywhere(t, "a return, of one way", "func t2 / block / r0 t0 = int 1 / branch r0 b1 b2 / block / r1 t0 = int 1 / jump b2 / block / return r1")
	illEverywhere(t, "a branch, of one way", "func t2 / block / r0 t0 = int 1 / branch r0 b1 b2 / block / r1 t0 = int 1 / jump b2 / block / branch r1 b1 b3 / block / return r0")
	illEverywhere(t, "a branch, of a block behind", "func t2 / block / branch r0 b1 b2 / block / r0 t0 = int 1 / return r0 / block / jump b1")
	illEverywhere(t, "a branch, of the round it ends", "func t2 / block / r0 t0 = int 1 / jump b1 / block / branch r1 b2 b3 / block / r1 t0 = int 1 / jump b1 / block / return r0")
	illEverywhere(t, "a return, of another way", "func t2 / block / r0 t0 = int 1 / branch r0 b1 b2 / block / return r1 / block / r1 t0 = int 1 / return r1")
}

// made has a register of each type that one can have: r0 to r13; r14 has none. The next one is r15.
const made = "func t2 / block / r0 t0 = int 5 / r1 t10 = int 6 / r2 t1 = new / r3 t12 = local / r4 t5 = new / r5 t6 = local / r6 t7 = new / r7 t8 = new" +
	" / r8 t11 = null / r9 t15 = null / r10 t2 = fn f0 / r11 t13 = null / r12 t9 = fn f1 / r13 t14 = fn f2 / print r0"

// mustLines holds that behind made each of some lines makes a program well formed, or not.
func mustLines(t *testing.T, want api.Errno, lines ...string) {
	t.Helper()
	for _, line := range lines {
		l := append([]string{made + " / " + line + " / return r0"}, others()...)
		mustBe(t, line, program(t, l...), want)
	}
}

// P12.1: numbers: an int is of whatever type of that kind.
func TestNumbers(t *testing.T) {
	mustLines(t, api.OK, "r15 t0 = int 1", "r15 t10 = int -1", "r15 t0 = read", "r15 t10 = read", "print r0", "print r1")
	for k := range 16 {
		if k != 0 && k != 10 {
			mustLines(t, api.ErrForm, fmt.Sprintf("r15 t%d = int 1", k), fmt.Sprintf("r15 t%d = read", k))
		}
	}
	mustLines(t, api.ErrForm, "print r2", "print r10", "print r14", "print r15")
	for _, op := range []string{"add", "sub", "mul", "div", "less", "eq"} {
		mustLines(t, api.OK, "r15 t0 = "+op+" r0 r0", "r15 t0 = "+op+" r0 r1", "r15 t10 = "+op+" r0 r0", "r15 t10 = "+op+" r1 r0", "r15 t0 = "+op+" r1 r1")
		mustLines(t, api.ErrForm, "r15 t1 = "+op+" r0 r0", "r15 t2 = "+op+" r0 r0", "r15 t3 = "+op+" r0 r0", "r15 t4 = "+op+" r0 r0")
		mustLines(t, api.ErrForm, "r15 t0 = "+op+" r2 r2", "r15 t0 = "+op+" r0 r2", "r15 t0 = "+op+" r2 r0", "r15 t0 = "+op+" r10 r10", "r15 t1 = "+op+" r2 r0")
		mustLines(t, api.ErrForm, "r15 t0 = "+op+" r14 r0", "r15 t0 = "+op+" r0 r14", "r15 t0 = "+op+" r15 r15")
	}
}

// P12.1: pointers and functions.
func TestPointers(t *testing.T) {
	for k := range 16 {
		pointer, function := api.ErrForm, api.ErrForm
		if slices.Contains([]int{1, 5, 6, 7, 8, 11, 12, 15}, k) {
			pointer = api.OK
		} else if slices.Contains([]int{2, 9, 13, 14}, k) {
			function = api.OK
		}
		mustLines(t, pointer, fmt.Sprintf("r15 t%d = new", k), fmt.Sprintf("r15 t%d = local", k))
		mustLines(t, min(pointer, function), fmt.Sprintf("r15 t%d = null", k))
		for f, sig := range []int{2, 9, 14, 2} {
			want := api.ErrForm
			if sig == k {
				want = api.OK
			}
			mustLines(t, want, fmt.Sprintf("r15 t%d = fn f%d", k, f))
		}
	}
	mustLines(t, api.OK, "free r2", "free r3", "free r4", "free r5", "free r6", "free r7", "free r8", "free r9")
	mustLines(t, api.ErrForm, "free r0", "free r1", "free r10", "free r11", "free r12", "free r13", "free r14", "free r15")
	mustLines(t, api.OK, "r15 t0 = same r2 r2", "r15 t10 = same r3 r3", "r15 t0 = same r9 r9", "r15 t0 = same r5 r5")
	mustLines(t, api.ErrForm, "r15 t0 = same r2 r3", "r15 t0 = same r3 r2", "r15 t0 = same r2 r8", "r15 t1 = same r2 r2", "r15 t2 = same r2 r2", "r15 t3 = same r2 r2")
	mustLines(t, api.ErrForm, "r15 t0 = same r0 r0", "r15 t0 = same r10 r10", "r15 t0 = same r10 r2", "r15 t0 = same r2 r0", "r15 t0 = same r14 r14", "r15 t0 = same r15 r15")
}

// P12.1: what points to parts: by a type that points to just that one, of which there may be several.
func TestParts(t *testing.T) {
	mustLines(t, api.OK, "r15 t1 = field r4 0", "r15 t12 = field r4 0", "r15 t7 = field r4 1", "r15 t8 = field r4 2")
	mustLines(t, api.ErrForm, "r15 t0 = field r4 0", "r15 t7 = field r4 0", "r15 t11 = field r4 0", "r15 t1 = field r4 1", "r15 t2 = field r4 2", "r15 t3 = field r4 0")
	mustLines(t, api.ErrForm, "r15 t1 = field r4 3", "r15 t8 = field r4 3", "r15 t1 = field r4 7", "r15 t5 = field r4 3")
	mustLines(t, api.ErrForm, "r15 t1 = field r2 0", "r15 t5 = field r5 0", "r15 t1 = field r0 0", "r15 t15 = field r9 0", "r15 t1 = field r10 0", "r15 t1 = field r14 0", "r15 t7 = field r6 0", "r15 t1 = field r15 0")
	mustLines(t, api.OK, "r15 t5 = elem r5 r0", "r15 t5 = elem r5 r1")
	mustLines(t, api.ErrForm, "r15 t6 = elem r5 r0", "r15 t4 = elem r5 r0", "r15 t3 = elem r5 r0", "r15 t1 = elem r5 r0", "r15 t0 = elem r5 r0", "r15 t2 = elem r5 r0")
	mustLines(t, api.ErrForm, "r15 t5 = elem r4 r0", "r15 t1 = elem r4 r0", "r15 t1 = elem r2 r0", "r15 t5 = elem r0 r0", "r15 t5 = elem r5 r2", "r15 t5 = elem r5 r10", "r15 t5 = elem r5 r14", "r15 t5 = elem r14 r0", "r15 t5 = elem r0 r5")
	mustLines(t, api.ErrForm, "r15 t15 = elem r9 r0", "r15 t5 = elem r5 r15", "r15 t5 = elem r10 r0")
}

// P12.1: structs and arrays of structs and arrays, and of scalars.
func TestPartsWithin(t *testing.T) {
	const types = "type int / type fn t0 / type array t0 2 / type struct t0 t2 / type array t3 2 / type array t2 3 / type ptr t0 / type ptr t2 / type ptr t3 / type ptr t4 / type ptr t5 / type struct t4 t4 / type ptr t11"
	for line, want := range map[string]api.Errno{
		"r7 t6 = elem r2 r0": api.OK, "r7 t7 = elem r2 r0": api.ErrForm,
		"r7 t6 = field r3 0": api.OK, "r7 t7 = field r3 1": api.OK, "r7 t6 = field r3 1": api.ErrForm, "r7 t7 = field r3 0": api.ErrForm, "r7 t7 = field r3 2": api.ErrForm,
		"r7 t8 = elem r4 r0": api.OK, "r7 t6 = elem r4 r0": api.ErrForm, "r7 t7 = elem r4 r0": api.ErrForm,
		"r7 t7 = elem r5 r0": api.OK, "r7 t8 = elem r5 r0": api.ErrForm, "r7 t6 = elem r5 r0": api.ErrForm, "r7 t7 = field r5 0": api.ErrForm,
		"r7 t9 = field r6 0": api.OK, "r7 t9 = field r6 1": api.OK, "r7 t8 = field r6 0": api.ErrForm, "r7 t9 = elem r6 r0": api.ErrForm, "r7 t9 = field r6 2": api.ErrForm,
		"r7 t0 = load r2": api.ErrForm, "r7 t2 = load r2": api.ErrForm, "r7 t3 = load r3": api.ErrForm, "r7 t0 = load r3": api.ErrForm, "r7 t11 = load r6": api.ErrForm,
		"store r2 r0": api.ErrForm, "store r3 r0": api.ErrForm, "r7 t0 = load r1": api.OK, "store r1 r0": api.OK,
	} {
		mustBe(t, line, programOf(t, types, "func t1 / block / r0 t0 = int 1 / r1 t6 = new / r2 t7 = new / r3 t8 = new / r4 t9 = new / r5 t10 = new / r6 t12 = new / "+line+" / return r0"), want)
	}
}

// P12.1: a field is of a struct alone: not of a function, which has Parts, too, nor of an array of as many.
func TestPartsOfOthers(t *testing.T) {
	const types = "type int / type fn t0 / type fn t0 t0 t0 / type array t0 2 / type struct t0 t0 / type ptr t0 / type ptr t2 / type ptr t3 / type ptr t4"
	for line, want := range map[string]api.Errno{
		"r5 t5 = field r4 0": api.OK, "r5 t5 = field r4 1": api.OK,
		"r5 t5 = field r2 0": api.ErrForm, "r5 t5 = field r2 1": api.ErrForm, "r5 t5 = field r1 0": api.ErrForm, "r5 t5 = field r3 0": api.ErrForm,
		"r5 t5 = elem r3 r0": api.OK,
		"r5 t5 = elem r4 r0": api.ErrForm, "r5 t5 = elem r2 r0": api.ErrForm, "r5 t5 = elem r1 r0": api.ErrForm,
	} {
		mustBe(t, line, programOf(t, types, "func t1 / block / r0 t0 = int 1 / r1 t2 = null / r2 t6 = new / r3 t7 = new / r4 t8 = new / "+line+" / return r0"), want)
	}
}

// P12.1: loads and stores, of just the type that is pointed to, a scalar.
func TestMemory(t *testing.T) {
	mustLines(t, api.OK, "r15 t0 = load r2", "r15 t0 = load r3", "r15 t10 = load r8", "r15 t1 = load r6", "r15 t2 = load r7", "r15 t15 = load r9")
	mustLines(t, api.ErrForm, "r15 t10 = load r2", "r15 t0 = load r8", "r15 t12 = load r6", "r15 t13 = load r7", "r15 t1 = load r2", "r15 t1 = load r9", "r15 t1 = load r10")
	mustLines(t, api.ErrForm, "r15 t3 = load r4", "r15 t0 = load r4", "r15 t4 = load r5", "r15 t3 = load r5", "r15 t0 = load r5")
	mustLines(t, api.ErrForm, "r15 t0 = load r0", "r15 t0 = load r10", "r15 t0 = load r14", "r15 t0 = load r15", "r15 t15 = load r15")
	mustLines(t, api.OK, "store r2 r0", "store r3 r0", "store r8 r1", "store r6 r2", "store r7 r10", "store r9 r9")
	mustLines(t, api.ErrForm, "store r2 r1", "store r8 r0", "store r6 r3", "store r7 r11", "store r7 r12", "store r2 r2", "store r6 r0", "store r9 r2", "store r2 r10")
	mustLines(t, api.ErrForm, "store r4 r0", "store r5 r0", "store r4 r4", "store r5 r4", "store r0 r0", "store r0 r2", "store r10 r0", "store r10 r10")
	mustLines(t, api.ErrForm, "store r14 r0", "store r2 r14", "store r2 r15", "store r15 r0")
}

// P12.1: calls, of just the types of the function's parameters, in order, and what it answers.
func TestCalls(t *testing.T) {
	mustLines(t, api.OK, "r15 t0 = call f0", "r15 t1 = call f1 r0 r2", "r15 t10 = call f2 r1 r2 r12 r0", "r15 t0 = call f3")
	mustLines(t, api.ErrForm, "r15 t10 = call f0", "r15 t1 = call f0", "r15 t2 = call f0", "r15 t0 = call f1 r0 r2", "r15 t12 = call f1 r0 r2", "r15 t0 = call f2 r1 r2 r12 r0", "r15 t9 = call f1 r0 r2")
	mustLines(t, api.ErrForm, "r15 t0 = call f0 r0", "r15 t1 = call f1", "r15 t1 = call f1 r0", "r15 t1 = call f1 r2", "r15 t1 = call f1 r0 r2 r2", "r15 t1 = call f1 r0 r2 r0 r2", "r15 t10 = call f2 r1 r2 r12")
	mustLines(t, api.ErrForm, "r15 t1 = call f1 r2 r0", "r15 t1 = call f1 r1 r2", "r15 t1 = call f1 r0 r3", "r15 t1 = call f1 r0 r0", "r15 t10 = call f2 r0 r2 r12 r0", "r15 t10 = call f2 r1 r3 r12 r0", "r15 t10 = call f2 r1 r2 r13 r0", "r15 t10 = call f2 r1 r2 r12 r1", "r15 t10 = call f2 r0 r12 r2 r1")
	mustLines(t, api.ErrForm, "r15 t1 = call f1 r14 r2", "r15 t1 = call f1 r0 r14", "r15 t1 = call f1 r0 r15")
	mustLines(t, api.OK, "r15 t0 = icall r10", "r15 t0 = icall r11", "r15 t1 = icall r12 r0 r2", "r15 t10 = icall r13 r1 r2 r12 r0")
	mustLines(t, api.ErrForm, "r15 t10 = icall r10", "r15 t1 = icall r10", "r15 t2 = icall r10", "r15 t0 = icall r12 r0 r2", "r15 t12 = icall r12 r0 r2", "r15 t0 = icall r13 r1 r2 r12 r0")
	mustLines(t, api.ErrForm, "r15 t0 = icall r10 r0", "r15 t1 = icall r12", "r15 t1 = icall r12 r0", "r15 t1 = icall r12 r2", "r15 t1 = icall r12 r0 r2 r2", "r15 t10 = icall r13 r1 r2 r12")
	mustLines(t, api.ErrForm, "r15 t1 = icall r12 r2 r0", "r15 t1 = icall r12 r1 r2", "r15 t1 = icall r12 r0 r3", "r15 t10 = icall r13 r1 r2 r13 r0", "r15 t10 = icall r13 r0 r2 r12 r1")
	mustLines(t, api.ErrForm, "r15 t0 = icall r0", "r15 t0 = icall r2", "r15 t0 = icall r7", "r15 t0 = icall r14", "r15 t0 = icall r15", "r15 t1 = icall r12 r14 r2", "r15 t1 = icall r12 r0 r15", "r15 t0 = icall r5")
}

// P12.1: a phi reads registers of just its Type, a scalar.
func TestPhisTypes(t *testing.T) {
	types := []int{0, 10, 1, 12, 5, 6, 7, 8, 11, 15, 2, 13, 9, 14}
	for r := range 15 {
		for k := range 16 {
			want := api.ErrForm
			if r < 14 && types[r] == k {
				want = api.OK
			}
			mustLines(t, want, fmt.Sprintf("jump b1 / block / r15 t%d = phi b0 r%d", k, r))
			mustLines(t, want, fmt.Sprintf("branch r0 b1 b2 / block / jump b2 / block / r15 t%d = phi b0 r%d b1 r%d", k, r, r))
			for other := range 15 {
				if other != r {
					mustLines(t, api.ErrForm, fmt.Sprintf("branch r0 b1 b2 / block / jump b2 / block / r15 t%d = phi b0 r%d b1 r%d", k, r, other))
				}
			}
		}
	}
	mustTurn(t, loop, "r3 t0 = phi", "r3 t10 = phi", api.ErrForm)
	mustTurn(t, loop, "r7 t0 = add", "r7 t10 = add", api.ErrForm)
	mustTurn(t, loop, "r4 t1 = phi", "r4 t12 = phi", api.ErrForm)
	mustTurn(t, loop, "r8 t1 = local", "r8 t12 = local", api.ErrForm)
	illEverywhere(t, "a struct", "func t2 / block / r0 t0 = int 1 / r1 t3 = null / jump b1 / block / r2 t3 = phi b0 r1 / return r0")
}

// P12.1: a branch reads an int, a return a register of just the type that the function answers.
func TestEnds(t *testing.T) {
	for r := range 15 {
		branch, giveBack := api.ErrForm, api.ErrForm
		if r < 2 {
			branch = api.OK
		}
		if r == 0 {
			giveBack = api.OK
		}
		l := others()
		mustBe(t, fmt.Sprint("a branch by ", r), program(t, append([]string{fmt.Sprint(made, " / branch r", r, " b1 b1 / block / return r0")}, l...)...), branch)
		mustBe(t, fmt.Sprint("a branch by ", r, " in another block"), program(t, append([]string{fmt.Sprint(made, " / jump b1 / block / branch r", r, " b1 b2 / block / return r0")}, l...)...), branch)
		mustBe(t, fmt.Sprint("a return of ", r), program(t, append([]string{fmt.Sprint(made, " / return r", r)}, l...)...), giveBack)
	}
	first := "func t2 / block / r0 t0 = int 1 / return r0"
	for sig, which := range map[string][]api.Errno{
		"t9":  {api.ErrForm, api.OK, api.ErrForm, api.ErrForm, api.OK, api.ErrForm},
		"t14": {api.OK, api.ErrForm, api.ErrForm, api.ErrForm, api.ErrForm, api.ErrForm},
	} {
		for r, want := range which {
			params := map[string]int{"t9": 2, "t14": 4}[sig]
			text := fmt.Sprintf("func %s / block / r%d t12 = null / r%d t0 = int 1 / r%d t1 = null / print r%d / return r%d", sig, params, params+1, params+2, params+1, r)
			mustBe(t, fmt.Sprint("a return of ", r, " of ", sig), program(t, first, text), want)
		}
	}
}

// insOf answers all instructions of an Op that shape lets be, with registers from 0 to below regs and types of the table; of calls those with up to two Args.
func insOf(op uint8, regs, types int) []api.Ins {
	l := []api.Ins{{Op: op}}
	each := func(many int, turn func(x *api.Ins, n int)) {
		var more []api.Ins
		for _, x := range l {
			for n := range many {
				y := x
				turn(&y, n)
				more = append(more, y)
			}
		}
		l = more
	}
	if shape.Answers(op) {
		each(types, func(x *api.Ins, n int) { x.Type = n })
	}
	switch op {
	case api.OpAdd, api.OpSub, api.OpMul, api.OpDiv, api.OpLess, api.OpEq, api.OpSame, api.OpElem, api.OpStore:
		each(regs, func(x *api.Ins, n int) { x.B = n })
		fallthrough
	case api.OpField, api.OpLoad, api.OpFree, api.OpPrint, api.OpICall:
		each(regs, func(x *api.Ins, n int) { x.A = n })
	}
	switch op {
	case api.OpField:
		each(api.MaxParts, func(x *api.Ins, n int) { x.N = int64(n) })
	case api.OpFn:
		each(4, func(x *api.Ins, n int) { x.N = int64(n) })
	case api.OpCall:
		each(4, func(x *api.Ins, n int) { x.N = int64(n) })
		fallthrough
	case api.OpICall:
		none, few := l, []api.Ins(nil)
		each(5, func(x *api.Ins, n int) { x.Args = append(slices.Clone(x.Args), []int{0, 1, 2, 3, 12}[n]) })
		few = l
		each(5, func(x *api.Ins, n int) { x.Args = append(slices.Clone(x.Args), []int{0, 2, 3, 12, 14}[n]) })
		l = slices.Concat(none, few, l)
	}
	return l
}

// P12.1: all instructions behind made, but for phis, with all that they can have.
func TestAllInstructions(t *testing.T) {
	p := program(t, append([]string{made + " / r15 t0 = int 1 / return r0"}, others()...)...)
	for op := api.OpInt; op < api.OpPhi; op++ {
		met := map[string]int{}
		for _, x := range insOf(op, 16, 16) {
			p.Funcs[0].Blocks[0].Ins[15] = x
			want, broken := modelled(p)
			if e := sound.Check(p); e != want {
				t.Errorf("%+v: %d; want %d, %s", x, e, want, broken)
			}
			met[broken]++
		}
		if met[""] == 0 || met[fmt.Sprint("row ", op)] == 0 || met["shape"] > 0 {
			t.Errorf("of %d: %v", op, met)
		}
	}
}

// eachTurn hands on a program's twins, with one thing turned in each: a number of an instruction, or an end, the order of instructions, how many there are.
func eachTurn(p api.Program, yield func(p api.Program)) {
	for f, x := range p.Funcs {
		regs, _ := shape.Regs(p, f)
		turn := func(below int, at func(f *api.Func, n int)) {
			for n := range below {
				q := shape.Twin(p)
				at(&q.Funcs[f], n)
				yield(q)
			}
		}
		turn(len(p.Types), func(f *api.Func, n int) { f.Sig = n })
		turn(len(x.Blocks), func(f *api.Func, n int) { f.Blocks[0], f.Blocks[n] = f.Blocks[n], f.Blocks[0] })
		for b, block := range x.Blocks {
			turn(4, func(f *api.Func, n int) { f.Blocks[b].End.Kind = uint8(n) })
			turn(regs+1, func(f *api.Func, n int) { f.Blocks[b].End.A = n })
			turn(len(x.Blocks), func(f *api.Func, n int) { f.Blocks[b].End.To = n })
			turn(len(x.Blocks), func(f *api.Func, n int) { f.Blocks[b].End.Else = n })
			for at := range block.Ins {
				turn(len(block.Ins), func(f *api.Func, n int) {
					l := f.Blocks[b].Ins
					l[at], l[n] = l[n], l[at]
				})
				turn(1, func(f *api.Func, n int) { f.Blocks[b].Ins = slices.Delete(f.Blocks[b].Ins, at, at+1) })
				turn(1, func(f *api.Func, n int) {
					f.Blocks[b].Ins = slices.Insert(f.Blocks[b].Ins, at, f.Blocks[b].Ins[at])
				})
				turnIns(len(p.Types), regs, len(x.Blocks), block.Ins[at], turn, func(f *api.Func) *api.Ins { return &f.Blocks[b].Ins[at] })
			}
		}
	}
}

// turnIns turns each number of one instruction.
func turnIns(types, regs, blocks int, x api.Ins, turn func(below int, at func(f *api.Func, n int)), of func(f *api.Func) *api.Ins) {
	turn(24, func(f *api.Func, n int) { of(f).Op = uint8(n) })
	turn(types, func(f *api.Func, n int) { of(f).Type = n })
	turn(regs, func(f *api.Func, n int) { of(f).A = n })
	turn(regs, func(f *api.Func, n int) { of(f).B = n })
	turn(9, func(f *api.Func, n int) { of(f).N = int64(n) })
	for k := range x.Args {
		turn(regs, func(f *api.Func, n int) { of(f).Args[k] = n })
		turn(1, func(f *api.Func, n int) { of(f).Args = slices.Delete(of(f).Args, k, k+1) })
	}
	for k := range x.From {
		turn(blocks, func(f *api.Func, n int) { of(f).From[k] = n })
	}
	if len(x.From) > 1 {
		turn(1, func(f *api.Func, n int) { slices.Reverse(of(f).From); slices.Reverse(of(f).Args) })
		turn(1, func(f *api.Func, n int) { slices.Reverse(of(f).From) })
	}
}

// rules are all that a program can break.
func rules() []string {
	l := []string{"shape", "function 0", "reached", "block 0", "phis ahead", "From", "set, of a phi", "set", "no type", "set, of an end", "no type, of an end", "branch", "return"}
	for op := 1; op <= 22; op++ {
		l = append(l, fmt.Sprint("row ", op))
	}
	return l
}

// P12.1, P12.2, P12.4: programs with one thing turned, as the model tells of them; each rule is broken by some of them.
func TestTurned(t *testing.T) {
	met := map[string]int{}
	for _, l := range [][]string{{loop}, {meet}, many(), append([]string{"func t2 / block / r0 t0 = read / r1 t1 = null / r2 t1 = call f1 r0 r1 / return r0"}, others()[:2]...),
		{"func t2 / block / r0 t0 = int 1 / r1 t0 = int 2 / r2 t1 = new / jump b1 / block / r3 t0 = sub r0 r1 / r4 t0 = mul r3 r1 / r5 t0 = div r4 r0 / r6 t0 = eq r5 r0 / return r6"}} {
		eachTurn(program(t, l...), func(p api.Program) {
			met[mustModel(t, "turned", p)]++
		})
	}
	for _, rule := range append(rules(), "") {
		if met[rule] == 0 {
			t.Errorf("none breaks the rule %q: %v", rule, met)
		}
	}
}

// endsOf answers all ends of a block of a function of so many blocks and registers.
func endsOf(blocks, regs int) []api.End {
	var l []api.End
	for to := range blocks {
		l = append(l, api.End{Kind: api.EndJump, To: to})
		for other := range blocks {
			l = append(l, api.End{Kind: api.EndBranch, A: 0, To: to, Else: other})
		}
	}
	for a := range regs {
		l = append(l, api.End{Kind: api.EndReturn, A: a})
	}
	return l
}

// smallOf answers instructions of such a function: one that reads nothing, and those that read each register, here or at a block's end.
func smallOf(blocks, regs int) []api.Ins {
	l := []api.Ins{{Op: api.OpInt}}
	for a := range regs {
		l = append(l, api.Ins{Op: api.OpAdd, A: a, B: 0})
		for b := range blocks {
			l = append(l, api.Ins{Op: api.OpPhi, Args: []int{a}, From: []int{b}})
			for other := range blocks {
				l = append(l, api.Ins{Op: api.OpPhi, Args: []int{a, 0}, From: []int{b, other}})
			}
		}
	}
	return l
}

// P12.1, P12.4: all functions of three blocks with these ends, and these instructions: int in the first one, one in each other one.
func TestAllSmall(t *testing.T) {
	p := program(t, "func t2 / block / r0 t0 = int 1 / jump b0 / block / r1 t0 = int 1 / jump b0 / block / r2 t0 = int 2 / jump b0")
	l, met := p.Funcs[0].Blocks, map[string]int{}
	for _, l[1].End = range endsOf(3, 3) {
		for _, l[2].End = range endsOf(3, 3) {
			for _, l[0].End = range []api.End{{Kind: 1, To: 1}, {Kind: 1, To: 2}, {Kind: 2, To: 1, Else: 2}, {Kind: 2, To: 2, Else: 2}} {
				if reach, _ := flow.Reach(p, 0); len(reach) < 3 {
					continue // of blocks that are not reached the others tell
				}
				for _, l[1].Ins[0] = range smallOf(3, 3) {
					l[2].Ins[0] = api.Ins{Op: api.OpAdd, A: 1}
					met[mustModel(t, "small", p)]++
					l[2].Ins[0] = api.Ins{Op: api.OpPhi, Args: []int{0, 1}, From: []int{0, 1}}
					met[mustModel(t, "small", p)]++
				}
			}
		}
	}
	if met[""] < 100 || met["From"] < 100 || met["set"] < 100 || met["set, of a phi"] < 20 || met["set, of an end"] < 20 {
		t.Errorf("too few of a kind: %v", met)
	}
}

// chance is numbers that come out alike each time.
type chance uint64

func (c *chance) next(below int) int {
	*c = *c*6364136223846793005 + 1442695040888963407
	return int((uint64(*c) >> 33) % uint64(below))
}

// register answers one that is set at a place; seldom any one.
func (c *chance) register(p api.Program, b, at int) int {
	regs, _ := shape.Regs(p, 0)
	var set []int
	for r := range regs {
		if is, _ := dom.Set(p, 0, r, b, at); is {
			set = append(set, r)
		}
	}
	if len(set) == 0 || c.next(60) == 0 {
		return c.next(regs)
	}
	return set[c.next(len(set))]
}

// fill puts instructions that read into a function of numbers alone, and turns what its ends read.
func (c *chance) fill(p api.Program) {
	l := p.Funcs[0].Blocks
	for b := range l {
		preds, _ := flow.Preds(p, 0, b)
		phis := c.next(len(l[b].Ins) + 1)
		for at := range l[b].Ins {
			x := &l[b].Ins[at]
			if at < phis && len(preds) > 0 {
				phi := api.Ins{Op: api.OpPhi, From: preds}
				for _, k := range preds {
					phi.Args = append(phi.Args, c.register(p, k, len(l[k].Ins)))
				}
				*x = phi // whole, as of one that is not shape tells nothing
			} else if b > 0 || at > 0 {
				*x = api.Ins{Op: api.OpMul, A: c.register(p, b, at), B: c.register(p, b, at)}
			}
		}
		if l[b].End.Kind != api.EndJump {
			l[b].End.A = c.register(p, b, len(l[b].Ins))
		}
	}
}

// function answers a function of so many blocks, each of which but the first one is gone to by one ahead of it.
func (c *chance) function(blocks int) api.Func {
	f := api.Func{Sig: 2, Blocks: make([]api.Block, blocks)}
	for b := range f.Blocks {
		f.Blocks[b].Ins = slices.Repeat([]api.Ins{{Op: api.OpRead}}, c.next(3))
		f.Blocks[b].End = api.End{Kind: api.EndReturn}
		if b+1 < blocks && c.next(3) == 0 {
			f.Blocks[b].End = api.End{Kind: api.EndJump, To: b + 1}
		} else if b+1 < blocks {
			f.Blocks[b].End = api.End{Kind: api.EndBranch, To: b + 1, Else: min(1+c.next(blocks), blocks-1)}
		} else if b > 1 && c.next(2) == 0 {
			f.Blocks[b].End = api.End{Kind: api.EndBranch, To: 1 + c.next(b), Else: 1 + c.next(b)}
		}
	}
	f.Blocks[0].Ins = append(f.Blocks[0].Ins, api.Ins{Op: api.OpRead})
	return f
}

// P12.1, P12.4: functions by the hundred, of few blocks and of the most, whose blocks go to each other, and whose registers are read, here and there.
func TestMixed(t *testing.T) {
	c, met := chance(12), map[string]int{}
	for k := range 800 {
		blocks := 1 + c.next(6)
		if k%40 == 0 {
			blocks = api.MaxBlocks
		}
		p := program(t, "func t2 / block / jump b0")
		p.Funcs[0] = c.function(blocks)
		c.fill(p)
		met[mustModel(t, "mixed", p)]++
	}
	if met[""] < 200 || met["set"] < 10 || met["set, of a phi"] < 10 || met["set, of an end"] < 3 {
		t.Errorf("too few of a kind: %v", met)
	}
}

// full answers a program of the most functions, of the most blocks, of the most instructions: all registers are those of rulers, far off.
func full() api.Program {
	f := api.Func{Sig: 1}
	for b := range api.MaxBlocks {
		x := api.Block{End: api.End{Kind: api.EndBranch, To: b + 1, Else: b + 1}}
		for at := range api.MaxIns / api.MaxBlocks {
			i := api.Ins{Op: api.OpSub, A: max(b*8+at-1, 0)}
			if b+at == 0 {
				i = api.Ins{Op: api.OpRead}
			}
			x.Ins = append(x.Ins, i)
		}
		f.Blocks = append(f.Blocks, x)
	}
	f.Blocks[15].End = api.End{Kind: api.EndReturn, A: 127}
	return api.Program{Types: []api.Type{{Kind: api.KInt}, {Kind: api.KFn}}, Funcs: slices.Repeat([]api.Func{f}, api.MaxFuncs)}
}

// P12.1, P12.2: the most of all, and one thing in it that is wrong.
func TestMost(t *testing.T) {
	p := full()
	if e := sound.Check(p); e != api.OK {
		t.Errorf("the most: %d", e)
	}
	for _, r := range []int{0, 1, 126, 127} {
		if k, e := sound.Kind(p, 7, r); k != 0 || e != api.OK {
			t.Errorf("Kind of %d: %d, %d", r, k, e)
		}
	}
	for what, turn := range map[string]func(f *api.Func){
		"what the last one reads": func(f *api.Func) { f.Blocks[15].Ins[7].A = 127 },
		"what the first one does": func(f *api.Func) { f.Blocks[0].Ins[0] = api.Ins{Op: api.OpNew} },
		"where the last one goes": func(f *api.Func) { f.Blocks[15].End = api.End{Kind: api.EndJump} },
		"the last one's type":     func(f *api.Func) { f.Blocks[15].Ins[7].Type = 1 },
		"a phi behind all":        func(f *api.Func) { f.Blocks[15].Ins[7] = api.Ins{Op: api.OpPhi, Args: []int{0}, From: []int{14}} },
		"a block past others":     func(f *api.Func) { f.Blocks[0].End.Else = 15 },
	} {
		q := shape.Twin(p)
		turn(&q.Funcs[7])
		if e := sound.Check(q); e != api.ErrForm {
			t.Errorf("%s: %d", what, e)
		}
		if k, e := sound.Kind(q, 0, 0); k != 0 || e != api.ErrForm {
			t.Errorf("%s: Kind = %d, %d", what, k, e)
		}
	}
}

// P12.1: of the most instructions in one block, and of the most that a phi can have.
func TestMostOfOne(t *testing.T) {
	text := "func t2 / block / r0 t0 = read"
	for r := 1; r < 128; r++ {
		text += fmt.Sprintf(" / r%d t0 = add r%d r0", r, r-1)
	}
	wellEverywhere(t, "one block", text+" / return r127")
	illEverywhere(t, "one block, and the last one reads itself", strings.Replace(text, "add r126 r0", "add r127 r0", 1)+" / return r127")
	text, phi := "func t2 / block / r0 t0 = read / branch r0 b1 b15", "b0 r0"
	for b := 1; b < 15; b++ {
		text += fmt.Sprintf(" / block / r%d t0 = read / branch r%d b%d b15", b, b, min(b+1, 15))
		phi += fmt.Sprintf(" b%d r%d", b, b)
	}
	wellEverywhere(t, "fifteen ways", text+" / block / r15 t0 = phi "+phi+" / return r15")
	illEverywhere(t, "fifteen ways, one of another", text+" / block / r15 t0 = phi "+strings.Replace(phi, "b8 r8", "b8 r9", 1)+" / return r15")
	wellEverywhere(t, "sixteen ways", strings.Replace(text, "branch r0 b1 b15", "jump b1", 1)+" / block / r15 t0 = phi "+strings.TrimPrefix(phi, "b0 r0 ")+" b15 r15 / branch r1 b15 b15")
}

// several are functions of one program, for Kind: of no parameter and of some.
func several() []string {
	return []string{meet, "func t9 / block / free r1 / r3 t10 = int 1 / store r1 r0 / jump b1 / block / print r0 / return r1", "func t14 / block / return r0", loop}
}

// P12.2: the types of parameters, and of instructions; ErrNone of those that answer nothing.
func TestKind(t *testing.T) {
	p := program(t, several()...)
	none := -1
	for f, types := range [][]int{
		{0, 2, 2, 2, 0, 6, 5, 7, 1, 0, none},
		{0, 1, none, 10, none, none},
		{10, 1, 9, 0},
		{0, 0, 1, 0, 1, 0, 0, 0, 1, none, 0, none},
	} {
		for r, want := range types {
			k, e := sound.Kind(p, f, r)
			if want == none && (k != 0 || e != api.ErrNone) || want != none && (k != want || e != api.OK) {
				t.Errorf("Kind(%d, %d) = %d, %d; want %d", f, r, k, e, want)
			}
		}
		if k, e := sound.Kind(p, f, len(types)); k != 0 || e != api.ErrArg {
			t.Errorf("Kind(%d, %d) = %d, %d", f, len(types), k, e)
		}
	}
}

// odd is numbers of nothing, beside those that are one past the last.
func odd(more ...int) []int {
	return append(more, -1, -2, least, least+1, most, most-1, 1<<32, -1<<32, 1<<62)
}

func mustRefuseKind(t *testing.T, what string, p api.Program, f, r int, want api.Errno) {
	t.Helper()
	if k, e := sound.Kind(p, f, r); k != 0 || e != want {
		t.Errorf("%s: Kind(%d, %d) = %d, %d; want %d", what, f, r, k, e, want)
	}
}

// P12.2: an f that is no function's number, an r that is none of its registers, also if it is another one's.
func TestNoRegister(t *testing.T) {
	p := program(t, several()...)
	for _, f := range odd(4, 5, 8, -4) {
		for _, r := range odd(0, 1, 2, 4, 11) {
			mustRefuseKind(t, "no function", p, f, r, api.ErrArg)
		}
	}
	for f, regs := range []int{11, 6, 4, 12} {
		for _, r := range odd(regs, regs+1, 12, 132, 133, -regs) {
			mustRefuseKind(t, "no register", p, f, r, api.ErrArg)
		}
	}
}

// refused answers programs that shape refuses, and its errors; in each there is something, too, that is not well formed.
func refused(t *testing.T) (l []api.Program, want []api.Errno) {
	put := func(e api.Errno, turn func(p *api.Program)) {
		p := program(t, several()...)
		p.Funcs[3].Blocks[0].End = api.End{Kind: api.EndJump}
		turn(&p)
		l, want = append(l, p), append(want, e)
	}
	put(api.ErrShape, func(p *api.Program) { *p = api.Program{} })
	put(api.ErrShape, func(p *api.Program) { p.Funcs = nil })
	put(api.ErrShape, func(p *api.Program) { p.Funcs = slices.Repeat(p.Funcs, 3) })
	put(api.ErrShape, func(p *api.Program) { p.Types = nil })
	put(api.ErrMany, func(p *api.Program) { p.Types = make([]api.Type, 17) })
	put(api.ErrMany, func(p *api.Program) { p.Types, p.Funcs = make([]api.Type, 17), nil })
	put(api.ErrType, func(p *api.Program) { p.Types[0].Kind = 0 })
	put(api.ErrType, func(p *api.Program) { p.Types[9].Parts[1] = 16 })
	put(api.ErrType, func(p *api.Program) { p.Types, p.Funcs = []api.Type{{Kind: 6}}, nil })
	for f := range 4 {
		put(api.ErrShape, func(p *api.Program) { p.Funcs[f].Sig = -1 })
		put(api.ErrShape, func(p *api.Program) { p.Funcs[f].Sig = 0 })
		put(api.ErrShape, func(p *api.Program) { p.Funcs[f].Sig = 16 })
		put(api.ErrShape, func(p *api.Program) { p.Funcs[f].Blocks = nil })
		put(api.ErrShape, func(p *api.Program) { p.Funcs[f].Blocks = slices.Repeat(p.Funcs[f].Blocks[:1], 17) })
		for _, end := range []api.End{{}, {Kind: 4}, {Kind: 1, To: -1}, {Kind: 1, To: most}, {Kind: 2, Else: 16}, {Kind: 3, A: 132}, {Kind: 3, A: least}} {
			put(api.ErrShape, func(p *api.Program) { p.Funcs[f].Blocks[0].End = end })
		}
		for _, x := range []api.Ins{{}, {Op: 23}, {Op: 255}, {Op: api.OpPrint, A: -1}, {Op: api.OpAdd, B: most}, {Op: api.OpAdd, Type: 16}, {Op: api.OpCall, Args: []int{132}},
			{Op: api.OpFn, N: 4}, {Op: api.OpCall, N: -1}, {Op: api.OpField, N: 8}, {Op: api.OpPhi, Args: []int{0}}, {Op: api.OpPhi, Args: []int{0}, From: []int{16}}, {Op: api.OpPhi, Args: []int{least}, From: []int{0}}, {Op: api.OpPhi}} {
			put(api.ErrShape, func(p *api.Program) { p.Funcs[f].Blocks[0].Ins = []api.Ins{x} })
		}
		put(api.ErrShape, func(p *api.Program) { p.Funcs[f].Blocks[0].Ins = make([]api.Ins, 129) })
	}
	return l, want
}

// P12.1, P12.2: programs that shape refuses: its error, ahead of all others.
func TestRefused(t *testing.T) {
	l, want := refused(t)
	for k, p := range l {
		mustBe(t, fmt.Sprint("refused ", k), p, want[k])
		for _, f := range []int{0, 1, 3, 4, -1, 8, least, most} {
			for _, r := range []int{0, 1, 2, -1, 16, least, most} {
				mustRefuseKind(t, fmt.Sprint("refused ", k), p, f, r, want[k])
			}
		}
	}
}

// P12.2: of a program that is not well formed that is told first, whatever is asked for.
func TestKindOfIll(t *testing.T) {
	for _, l := range [][]string{{meet, "func t2 / block / jump b0"}, {"func t9 / block / return r1", meet}, {"func t2 / block / print r0 / r1 t0 = int 1 / return r1"}} {
		p := program(t, l...)
		for _, f := range odd(0, 1, 2, 8) {
			for _, r := range odd(0, 1, 2, 11, 132) {
				mustRefuseKind(t, "not well formed", p, f, r, api.ErrForm)
			}
		}
	}
}

// roomy answers l with room behind it that holds marks.
func roomy[T any](l []T, mark T) []T {
	return append(slices.Clone(l), mark, mark)[:len(l)]
}

// eachList hands each list of a program on, and puts there what is answered.
func eachList(p *api.Program, ins func(l []api.Ins) []api.Ins, ints func(l []int) []int) {
	for k := range p.Types {
		p.Types[k].Parts = ints(p.Types[k].Parts)
	}
	for f := range p.Funcs {
		for b := range p.Funcs[f].Blocks {
			x := &p.Funcs[f].Blocks[b]
			x.Ins = ins(x.Ins)
			for k := range x.Ins {
				x.Ins[k].Args, x.Ins[k].From = ints(x.Ins[k].Args), ints(x.Ins[k].From)
			}
		}
	}
}

// wide answers p with room behind all its lists.
func wide(p api.Program) api.Program {
	p = shape.Twin(p)
	p.Types, p.Funcs = roomy(p.Types, api.Type{Kind: 77}), roomy(p.Funcs, api.Func{Sig: 77})
	for f := range p.Funcs {
		p.Funcs[f].Blocks = roomy(p.Funcs[f].Blocks, api.Block{End: api.End{Kind: 77}})
	}
	eachList(&p, func(l []api.Ins) []api.Ins { return roomy(l, api.Ins{Op: 77}) }, func(l []int) []int { return roomy(l, 77) })
	return p
}

// all answers l in new memory, with what stands in the room behind it as part of it.
func all[T any](l []T) []T { return slices.Clone(l[:cap(l)]) }

// whole answers p in new memory, with what stands in the room behind its lists as part of them.
func whole(p api.Program) api.Program {
	p.Types, p.Funcs = all(p.Types), all(p.Funcs)
	for f := range p.Funcs {
		p.Funcs[f].Blocks = all(p.Funcs[f].Blocks)
	}
	eachList(&p, all, all)
	return p
}

// P12.3: what is handed in is only read, also behind the ends of its lists.
func TestOnlyRead(t *testing.T) {
	l, _ := refused(t)
	l = append(l, program(t, several()...), program(t, loop), program(t, meet, "func t2 / block / print r1 / r1 t0 = int 1 / return r1"), program(t, "func t9 / block / return r1"))
	l = append(l, program(t, many()...), program(t, strings.Replace(loop, "b0 r0 b2 r7", "b2 r7 b0 r0", 1)))
	for _, p := range l {
		p = wide(p)
		held, with := shape.Twin(p), whole(p)
		sound.Check(p)
		for f := -1; f <= len(p.Funcs); f++ {
			for r := -1; r <= 13; r++ {
				sound.Kind(p, f, r)
			}
		}
		if !shape.Same(p, held) || !reflect.DeepEqual(whole(p), with) {
			t.Errorf("what was handed in, %+v, is %+v", held, p)
		}
	}
}

// P1: nothing is kept from call to call, whatever is asked between; each call ends, also of lists that are far too long.
func TestAgain(t *testing.T) {
	fine, wrong := program(t, several()...), program(t, "func t2 / block / jump b0")
	for range 3 {
		mustBe(t, "again", fine, api.OK)
		mustBe(t, "again", wrong, api.ErrForm)
		mustBe(t, "again", api.Program{}, api.ErrShape)
		mustRefuseKind(t, "again", fine, 4, 0, api.ErrArg)
		mustRefuseKind(t, "again", fine, 1, 2, api.ErrNone)
	}
	p := shape.Twin(fine)
	p.Funcs[0].Blocks = make([]api.Block, 1_000_000)
	mustBe(t, "too many blocks", p, api.ErrShape)
	p.Funcs = make([]api.Func, 1_000_000)
	mustRefuseKind(t, "too many functions", p, 999_999, 0, api.ErrShape)
	p.Types = make([]api.Type, 1_000_000)
	mustBe(t, "too many types", p, api.ErrMany)
}
