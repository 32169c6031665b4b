package calc_test

import (
	"math"
	"math/big"
	"testing"

	"fescue/api"
	"fescue/calc"
)

const (
	least = math.MinInt64
	most  = math.MaxInt64
)

// operations are those of numbers.
func operations() []uint8 {
	return []uint8{api.OpAdd, api.OpSub, api.OpMul, api.OpDiv, api.OpLess, api.OpEq}
}

// edges answers numbers round which something turns: the ends, powers of two and of ten, with their neighbours, and their opposites.
func edges() []int64 {
	l := []int64{0, 7, -7, least, least + 1, most, most - 1, most / 3, least / 3, 3037000499, 3037000500, 1234567890123456789}
	for bit := range 63 {
		n := int64(1) << bit
		l = append(l, n-1, n, n+1, -n-1, -n, -n+1)
	}
	for n := int64(10); n <= most/10; n *= 1000 {
		l = append(l, n, -n)
	}
	return l
}

// wrapped answers n, brought into -2^63 to 2^63 - 1 by as many times 2^64 as it takes.
func wrapped(n *big.Int) int64 {
	round := new(big.Int).Lsh(big.NewInt(1), 64)
	r := new(big.Int).Mod(n, round)
	if !r.IsInt64() {
		r.Sub(r, round)
	}
	return r.Int64()
}

// asked tells by the document's words, with numbers of any size, what an operation makes of a and b.
func asked(op uint8, a, b int64) (int64, api.Errno) {
	x, y, n := big.NewInt(a), big.NewInt(b), new(big.Int)
	switch op {
	case api.OpAdd:
		return wrapped(n.Add(x, y)), api.OK
	case api.OpSub:
		return wrapped(n.Sub(x, y)), api.OK
	case api.OpMul:
		return wrapped(n.Mul(x, y)), api.OK
	case api.OpDiv:
		if b == 0 {
			return 0, api.TrapZero
		}
		return wrapped(n.Quo(x, y)), api.OK
	case api.OpLess:
		if x.Cmp(y) < 0 {
			return 1, api.OK
		}
		return 0, api.OK
	case api.OpEq:
		if x.Cmp(y) == 0 {
			return 1, api.OK
		}
		return 0, api.OK
	}
	return 0, api.ErrArg
}

func mustDo(t *testing.T, op uint8, a, b, want int64, told api.Errno) {
	t.Helper()
	if n, e := calc.Do(op, a, b); n != want || e != told {
		t.Errorf("Do(%d, %d, %d) = %d, %d; want %d, %d", op, a, b, n, e, want, told)
	}
}

// number answers what an operation makes of numbers of which it answers one.
func number(t *testing.T, op uint8, a, b int64) int64 {
	t.Helper()
	n, e := calc.Do(op, a, b)
	if e != api.OK {
		t.Fatalf("Do(%d, %d, %d) told %d", op, a, b, e)
	}
	return n
}

// P13.1: the document's examples.
func TestDoExamples(t *testing.T) {
	mustDo(t, api.OpAdd, most, 1, least, api.OK)
	mustDo(t, api.OpMul, 1<<32, 1<<32, 0, api.OK)
	mustDo(t, api.OpDiv, -7, 2, -3, api.OK)
	mustDo(t, api.OpDiv, least, -1, least, api.OK)
	mustDo(t, api.OpDiv, 1, 0, 0, api.TrapZero)
}

// P13.1: each operation at ordinary numbers, a ahead of b.
func TestDoOrdinary(t *testing.T) {
	for _, x := range []struct {
		op         uint8
		a, b, want int64
	}{
		{api.OpAdd, 2, 3, 5}, {api.OpAdd, -2, 3, 1}, {api.OpAdd, 0, 0, 0}, {api.OpAdd, 2, -3, -1},
		{api.OpSub, 2, 3, -1}, {api.OpSub, 3, 2, 1}, {api.OpSub, -3, -3, 0},
		{api.OpMul, 6, 7, 42}, {api.OpMul, -6, 7, -42}, {api.OpMul, -6, -7, 42}, {api.OpMul, 0, -7, 0},
		{api.OpDiv, 42, 7, 6}, {api.OpDiv, 43, 7, 6}, {api.OpDiv, 7, 42, 0}, {api.OpDiv, -7, 42, 0},
		{api.OpDiv, 7, 2, 3}, {api.OpDiv, 7, -2, -3}, {api.OpDiv, -7, -2, 3}, {api.OpDiv, 0, 5, 0},
		{api.OpLess, 2, 3, 1}, {api.OpLess, 3, 2, 0}, {api.OpLess, 3, 3, 0}, {api.OpLess, -3, 2, 1}, {api.OpLess, 2, -3, 0},
		{api.OpEq, 2, 3, 0}, {api.OpEq, 3, 2, 0}, {api.OpEq, 3, 3, 1}, {api.OpEq, -3, 3, 0}, {api.OpEq, 0, 0, 1},
	} {
		mustDo(t, x.op, x.a, x.b, x.want, api.OK)
	}
}

// P13.1: what leaves the numbers' ends comes back on the other side.
func TestDoWraps(t *testing.T) {
	for _, x := range []struct {
		op         uint8
		a, b, want int64
	}{
		{api.OpAdd, most, most, -2}, {api.OpAdd, least, least, 0}, {api.OpAdd, least, -1, most}, {api.OpAdd, least, most, -1},
		{api.OpSub, least, 1, most}, {api.OpSub, most, -1, least}, {api.OpSub, 0, least, least}, {api.OpSub, least, least, 0}, {api.OpSub, -1, least, most},
		{api.OpMul, most, 2, -2}, {api.OpMul, most, most, 1}, {api.OpMul, least, least, 0}, {api.OpMul, least, -1, least},
		{api.OpMul, 1 << 31, 1 << 32, least}, {api.OpMul, 1<<32 + 1, 1<<32 + 1, 1<<33 + 1}, {api.OpMul, -1 << 32, 1 << 31, least},
		{api.OpDiv, most, -1, least + 1}, {api.OpDiv, least, 1, least}, {api.OpDiv, least, least, 1}, {api.OpDiv, most, least, 0}, {api.OpDiv, least, most, -1}, {api.OpDiv, least, 2, -1 << 62},
		{api.OpLess, least, most, 1}, {api.OpLess, most, least, 0}, {api.OpLess, least, 0, 1}, {api.OpLess, least, least, 0}, {api.OpLess, most - 1, most, 1},
		{api.OpEq, least, most, 0}, {api.OpEq, least, least, 1}, {api.OpEq, most, most, 1}, {api.OpEq, 0, least, 0}, {api.OpEq, most, most - 1, 0}, {api.OpEq, 1 << 32, 0, 0},
	} {
		mustDo(t, x.op, x.a, x.b, x.want, api.OK)
	}
}

// P13.1: nothing is divided by 0, whatever it is; no other operation minds a 0.
func TestDoZero(t *testing.T) {
	for _, a := range edges() {
		for _, op := range operations() {
			want, e := asked(op, a, 0)
			if (e == api.TrapZero) != (op == api.OpDiv) {
				t.Fatalf("the model tells %d of the operation %d", e, op)
			}
			mustDo(t, op, a, 0, want, e)
		}
		if a != 0 {
			mustDo(t, api.OpDiv, 0, a, 0, api.OK)
		}
	}
}

// P13.1: every other operation is refused, also with what would trap.
func TestDoRefuses(t *testing.T) {
	for op := range 256 {
		refused := true
		for _, x := range operations() {
			refused = refused && op != int(x)
		}
		if !refused {
			continue
		}
		mustDo(t, uint8(op), 6, 3, 0, api.ErrArg)
		mustDo(t, uint8(op), 6, 0, 0, api.ErrArg)
		mustDo(t, uint8(op), least, -1, 0, api.ErrArg)
	}
}

// P13.1: at all edges the answers are those of numbers of any size, brought back.
func TestDoEdges(t *testing.T) {
	l := edges()
	for op := range uint8(api.OpSame + 1) {
		for _, a := range l {
			for _, b := range l {
				want, e := asked(op, a, b)
				mustDo(t, op, a, b, want, e)
			}
		}
	}
}

// P13.1: so they are of small numbers, all of them.
func TestDoSmall(t *testing.T) {
	for _, op := range operations() {
		for a := int64(-20); a <= 20; a++ {
			for b := int64(-20); b <= 20; b++ {
				want, e := asked(op, a, b)
				mustDo(t, op, a, b, want, e)
			}
		}
	}
}

// chance is numbers that look mixed, and are the same in each run.
type chance uint64

func (c *chance) next() int64 {
	*c = *c*6364136223846793005 + 1442695040888963407
	n := uint64(*c) ^ uint64(*c)>>29
	return int64(n) >> (uint64(*c) >> 58)
}

// P13.1: so they are of mixed numbers of all sizes.
func TestDoMixed(t *testing.T) {
	c := chance(1)
	for range 20000 {
		a, b := c.next(), c.next()
		for _, op := range operations() {
			want, e := asked(op, a, b)
			mustDo(t, op, a, b, want, e)
		}
	}
}

// P13.3: sums and products can be put together in any order.
func TestOrder(t *testing.T) {
	c := chance(2)
	for range 5000 {
		x, y, z := c.next(), c.next(), c.next()
		for _, op := range []uint8{api.OpAdd, api.OpMul} {
			want := number(t, op, number(t, op, x, y), z)
			for _, l := range [][3]int64{{x, z, y}, {y, x, z}, {y, z, x}, {z, x, y}, {z, y, x}} {
				if n := number(t, op, number(t, op, l[0], l[1]), l[2]); n != want {
					t.Errorf("operation %d of %v is %d, in another order %d", op, l, n, want)
				}
				if n := number(t, op, l[0], number(t, op, l[1], l[2])); n != want {
					t.Errorf("operation %d of %v from behind is %d, in another order %d", op, l, n, want)
				}
			}
		}
	}
}

// P13.3: a difference goes back; a quotient times the divisor, and what is left, are the number.
func TestGoesBack(t *testing.T) {
	l := edges()
	c := chance(3)
	for range 200 {
		l = append(l, c.next())
	}
	for _, a := range l {
		for _, b := range l {
			if n := number(t, api.OpAdd, number(t, api.OpSub, a, b), b); n != a {
				t.Errorf("%d less %d, and that, is %d", a, b, n)
			}
			if n := number(t, api.OpSub, number(t, api.OpAdd, a, b), b); n != a {
				t.Errorf("%d and %d, less that, is %d", a, b, n)
			}
			if b == 0 {
				continue
			}
			back := number(t, api.OpMul, number(t, api.OpDiv, a, b), b)
			left := new(big.Int).Rem(big.NewInt(a), big.NewInt(b))
			if n := number(t, api.OpSub, a, back); n != left.Int64() {
				t.Errorf("of %d by %d %d is left, want %d", a, b, n, left)
			}
			if n := number(t, api.OpAdd, back, left.Int64()); n != a {
				t.Errorf("the quotient of %d by %d, times that, and what is left are %d", a, b, n)
			}
		}
	}
}

// wellMade tells by the document's words whether v may be.
func wellMade(v api.Val) bool {
	switch {
	case v.Kind == api.ValInt:
		return v == api.Val{Kind: api.ValInt, N: v.N}
	case v.Kind == api.ValPtr && v.Block == 0:
		return v == api.Val{Kind: api.ValPtr}
	case v.Kind == api.ValPtr:
		return v.Block > 0 && v.At >= 0 && v == api.Val{Kind: api.ValPtr, Block: v.Block, At: v.At}
	case v.Kind == api.ValFn:
		return v.N >= 0 && v.N <= 8 && v == api.Val{Kind: api.ValFn, N: v.N}
	}
	return false
}

func mustCheck(t *testing.T, v api.Val, want api.Errno) {
	t.Helper()
	if e := calc.Check(v); e != want {
		t.Errorf("Check(%+v) = %d, want %d", v, e, want)
	}
}

// P13.2: numbers, pointers and functions that may be.
func TestCheckMayBe(t *testing.T) {
	for _, n := range edges() {
		mustCheck(t, api.Val{Kind: api.ValInt, N: n}, api.OK)
	}
	for _, n := range []int{1, 2, api.MaxSteps, api.MaxSteps + 1, math.MaxInt} {
		for _, at := range []int{0, 1, api.MaxCells - 1, api.MaxCells, math.MaxInt} {
			mustCheck(t, api.Val{Kind: api.ValPtr, Block: n, At: at}, api.OK)
		}
	}
	mustCheck(t, api.Val{Kind: api.ValPtr}, api.OK)
	for n := range int64(9) {
		mustCheck(t, api.Val{Kind: api.ValFn, N: n}, api.OK)
	}
}

// P13.2: each thing that a value may not be, alone.
func TestCheckMayNotBe(t *testing.T) {
	for _, v := range []api.Val{
		{},
		{N: 1},
		{Kind: api.ValInt, Block: 1},
		{Kind: api.ValInt, At: 1},
		{Kind: api.ValInt, Block: -1},
		{Kind: api.ValInt, At: -1},
		{Kind: api.ValInt, N: 7, Block: 1, At: 1},
		{Kind: api.ValPtr, N: 1},
		{Kind: api.ValPtr, N: -1},
		{Kind: api.ValPtr, N: 1, Block: 1},
		{Kind: api.ValPtr, Block: -1},
		{Kind: api.ValPtr, Block: math.MinInt},
		{Kind: api.ValPtr, Block: -1, At: 1},
		{Kind: api.ValPtr, Block: 1, At: -1},
		{Kind: api.ValPtr, Block: 1, At: math.MinInt},
		{Kind: api.ValPtr, At: 1},
		{Kind: api.ValPtr, At: -1},
		{Kind: api.ValFn, N: -1},
		{Kind: api.ValFn, N: 9},
		{Kind: api.ValFn, N: least},
		{Kind: api.ValFn, N: most},
		{Kind: api.ValFn, N: 1 << 32},
		{Kind: api.ValFn, N: 1, Block: 1},
		{Kind: api.ValFn, N: 1, At: 1},
		{Kind: api.ValFn, Block: -1},
		{Kind: api.ValFn, At: -1},
	} {
		mustCheck(t, v, api.ErrBad)
	}
	for kind := range 256 {
		if kind >= 1 && kind <= 3 {
			continue
		}
		mustCheck(t, api.Val{Kind: uint8(kind)}, api.ErrBad)
		mustCheck(t, api.Val{Kind: uint8(kind), N: 1}, api.ErrBad)
		mustCheck(t, api.Val{Kind: uint8(kind), Block: 1}, api.ErrBad)
	}
}

// values are those of all kinds of values, and of kinds beside them, with numbers round the edges.
func values() []api.Val {
	var l []api.Val
	numbers := []int{math.MinInt, -1, 0, 1, 2, api.MaxCells, math.MaxInt}
	for _, kind := range []uint8{0, api.ValInt, api.ValPtr, api.ValFn, 4, 5, 255} {
		for _, n := range []int64{least, -1, 0, 1, 7, 8, 9, 10, most} {
			for _, b := range numbers {
				for _, at := range numbers {
					l = append(l, api.Val{Kind: kind, N: n, Block: b, At: at})
				}
			}
		}
	}
	return l
}

// P13.2: whether values may be, and fit, by the document's words.
func TestValues(t *testing.T) {
	for _, v := range values() {
		may := wellMade(v)
		want := api.ErrBad
		if may {
			want = api.OK
		}
		mustCheck(t, v, want)
		for kind := range uint8(8) {
			fits := may && (kind == api.KInt && v.Kind == api.ValInt || kind == api.KPtr && v.Kind == api.ValPtr || kind == api.KFn && v.Kind == api.ValFn)
			if calc.Fits(v, kind) != fits {
				t.Errorf("Fits(%+v, %d) = %t", v, kind, !fits)
			}
		}
	}
}

// P13.2: a value fits one kind, its own; none fits what is no scalar's kind.
func TestFits(t *testing.T) {
	well := []api.Val{{Kind: api.ValInt, N: -5}, {Kind: api.ValPtr, Block: 3, At: 2}, {Kind: api.ValFn, N: 8}}
	bad := []api.Val{{Kind: api.ValInt, At: 2}, {Kind: api.ValPtr, At: 2}, {Kind: api.ValFn, N: 9}}
	own := []uint8{api.KInt, api.KPtr, api.KFn}
	for k := range well {
		for kind := range 256 {
			if fits := calc.Fits(well[k], uint8(kind)); fits != (uint8(kind) == own[k]) {
				t.Errorf("Fits(%+v, %d) = %t", well[k], kind, fits)
			}
			if calc.Fits(bad[k], uint8(kind)) {
				t.Errorf("%+v may not be, and fits the kind %d", bad[k], kind)
			}
			if calc.Fits(api.Val{}, uint8(kind)) || calc.Fits(api.Val{Kind: uint8(kind)}, 0) {
				t.Errorf("what has no kind fits %d, or other way round", kind)
			}
		}
	}
}

// P13.2: the values at first, which may be, and fit; of no other kinds.
func TestFirst(t *testing.T) {
	want := map[uint8]api.Val{api.KInt: {Kind: api.ValInt}, api.KPtr: {Kind: api.ValPtr}, api.KFn: {Kind: api.ValFn}}
	for kind := range 256 {
		v, e := calc.First(uint8(kind))
		first, scalar := want[uint8(kind)]
		if !scalar {
			if v != (api.Val{}) || e != api.ErrArg {
				t.Errorf("First(%d) = %+v, %d; want ErrArg", kind, v, e)
			}
			continue
		}
		if v != first || e != api.OK {
			t.Errorf("First(%d) = %+v, %d; want %+v", kind, v, e, first)
		}
		if calc.Check(v) != api.OK || !calc.Fits(v, uint8(kind)) {
			t.Errorf("%+v does not fit its kind", v)
		}
	}
}

// P13.1, P13.2: nothing is kept from call to call.
func TestAgain(t *testing.T) {
	for range 2 {
		mustDo(t, api.OpDiv, 1, 0, 0, api.TrapZero)
		mustDo(t, api.OpDiv, 7, 2, 3, api.OK)
		mustDo(t, 0, 7, 2, 0, api.ErrArg)
		mustDo(t, api.OpSub, 7, 2, 5, api.OK)
		mustCheck(t, api.Val{Kind: api.ValFn, N: 9}, api.ErrBad)
		mustCheck(t, api.Val{Kind: api.ValFn, N: 8}, api.OK)
	}
}
