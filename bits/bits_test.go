package bits_test

import (
	"maps"
	"math"
	"slices"
	"testing"

	"fescue/api"
	"fescue/bits"
)

const (
	wide  = 64
	last  = api.MaxSet - 1    // the greatest number that a set may have
	words = api.MaxSet / wide // how many words a set may have
	full  = uint64(math.MaxUint64)
)

// operation is one of Or, And and Minus, with what the document's words say of a number that may be in a, and in b.
type operation struct {
	name string
	do   func(a, b api.Set) (api.Set, api.Errno)
	has  func(inA, inB bool) bool
}

func operations() []operation {
	return []operation{
		{"Or", bits.Or, func(inA, inB bool) bool { return inA || inB }},
		{"And", bits.And, func(inA, inB bool) bool { return inA && inB }},
		{"Minus", bits.Minus, func(inA, inB bool) bool { return inA && !inB }},
	}
}

// byHand answers the set of l by the document's words: number by number into the word that it belongs to.
func byHand(l []int) api.Set {
	in := map[int]uint64{}
	for _, n := range l {
		in[n/wide] |= uint64(1) << (n % wide)
	}
	var s api.Set
	for _, at := range slices.Sorted(maps.Keys(in)) {
		s = append(s, api.Word{At: at, Bits: in[at]})
	}
	return s
}

func set(t *testing.T, l ...int) api.Set {
	t.Helper()
	s, e := bits.Of(l)
	if e != api.OK || !slices.Equal(s, byHand(l)) {
		t.Fatalf("Of(%v) = %v, %d; want %v, OK", l, s, e, byHand(l))
	}
	return s
}

// sorted answers the numbers of l, rising, each once.
func sorted(l []int) []int {
	k := slices.Clone(l)
	slices.Sort(k)
	return slices.Compact(k)
}

// edges answers numbers round which something turns: the ends, and where a word ends.
func edges() []int {
	return []int{0, 1, 62, 63, 64, 65, 127, 128, 129, 4095, 4096, last - 64, last - 63, last - 1, last}
}

// choices answers all lists of some of l: 2 to the power of its length.
func choices(l []int) [][]int {
	all := [][]int{nil}
	for _, n := range l {
		for _, c := range all[:len(all):len(all)] {
			all = append(all, append(slices.Clone(c), n))
		}
	}
	return all
}

// mixed answers lists of numbers, few and many, near to each other and far, that come out alike each time.
func mixed() [][]int {
	var all [][]int
	state := uint64(1)
	next := func(below int) int {
		state = state*6364136223846793005 + 1442695040888963407
		return int((state >> 33) % uint64(below))
	}
	for _, below := range []int{1, 2, 63, 64, 65, 200, 1000, 5000, api.MaxSet} {
		for _, many := range []int{1, 2, 7, 50, 400} {
			var l []int
			for range many {
				l = append(l, next(below))
			}
			all = append(all, l)
		}
	}
	return all
}

// broken answers sets that may not be.
func broken() map[string]api.Set {
	return map[string]api.Set{
		"At -1":                     {{At: -1, Bits: 1}},
		"At -1, others well":        {{At: -1, Bits: 1}, {At: 0, Bits: 1}},
		"At the least":              {{At: math.MinInt, Bits: 1}},
		"At -64":                    {{At: -64, Bits: full}},
		"At -1 behind":              {{At: 0, Bits: 1}, {At: -1, Bits: 1}},
		"At too great":              {{At: words, Bits: 1}},
		"At too great, others well": {{At: 0, Bits: 1}, {At: words - 1, Bits: 1}, {At: words, Bits: 1}},
		"At as great as a number":   {{At: last, Bits: 1}},
		"At the greatest":           {{At: math.MaxInt, Bits: 1}},
		"no bit":                    {{At: 0, Bits: 0}},
		"no bit in the middle":      {{At: 0, Bits: 1}, {At: 1, Bits: 0}, {At: 2, Bits: 1}},
		"no bit at the end":         {{At: 0, Bits: 1}, {At: words - 1, Bits: 0}},
		"twice the same At":         {{At: 3, Bits: 1}, {At: 3, Bits: 2}},
		"twice the same word":       {{At: 0, Bits: 1}, {At: 0, Bits: 1}},
		"twice behind":              {{At: 0, Bits: 1}, {At: 7, Bits: 1}, {At: 7, Bits: 1}},
		"falls":                     {{At: 1, Bits: 1}, {At: 0, Bits: 1}},
		"falls behind":              {{At: 1, Bits: 1}, {At: 5, Bits: 1}, {At: 4, Bits: 1}},
		"falls, and rises again":    {{At: 5, Bits: 1}, {At: 2, Bits: 1}, {At: 9, Bits: 1}},
	}
}

// P2.1: sets that may be, the empty one and the greatest one among them.
func TestCheck(t *testing.T) {
	most := make(api.Set, words)
	for at := range most {
		most[at] = api.Word{At: at, Bits: full}
	}
	for name, s := range map[string]api.Set{
		"nil": nil, "empty": {}, "0": {{At: 0, Bits: 1}}, "63": {{At: 0, Bits: 1 << 63}}, "a whole word": {{At: 5, Bits: full}},
		"the last number": {{At: words - 1, Bits: 1 << 63}}, "the last word's first": {{At: words - 1, Bits: 1}},
		"both ends": {{At: 0, Bits: 1}, {At: words - 1, Bits: 1 << 63}}, "rising by one": {{At: 3, Bits: 2}, {At: 4, Bits: 1}}, "all numbers": most,
	} {
		if e := bits.Check(s); e != api.OK {
			t.Errorf("Check of %s: %d; want OK", name, e)
		}
	}
	for name, s := range broken() {
		if e := bits.Check(s); e != api.ErrBad {
			t.Errorf("Check of %s: %d; want ErrBad", name, e)
		}
	}
}

// P2.1: the words of a set, as the document's example has them.
func TestOf(t *testing.T) {
	for _, c := range []struct {
		l    []int
		want api.Set
	}{
		{nil, nil}, {[]int{}, nil},
		{[]int{64, 1, 64}, api.Set{{At: 0, Bits: 2}, {At: 1, Bits: 1}}},
		{[]int{0}, api.Set{{At: 0, Bits: 1}}}, {[]int{0, 0, 0}, api.Set{{At: 0, Bits: 1}}},
		{[]int{63}, api.Set{{At: 0, Bits: 1 << 63}}}, {[]int{64}, api.Set{{At: 1, Bits: 1}}},
		{[]int{1_048_575}, api.Set{{At: 16_383, Bits: 1 << 63}}},
		{[]int{1_048_575, 0}, api.Set{{At: 0, Bits: 1}, {At: 16_383, Bits: 1 << 63}}},
		{[]int{3, 2, 1, 0}, api.Set{{At: 0, Bits: 15}}},
		{[]int{200, 100, 0}, api.Set{{At: 0, Bits: 1}, {At: 1, Bits: 1 << 36}, {At: 3, Bits: 1 << 8}}},
	} {
		if s, e := bits.Of(c.l); e != api.OK || !slices.Equal(s, c.want) {
			t.Errorf("Of(%v) = %v, %d; want %v, OK", c.l, s, e, c.want)
		}
	}
	alone := edges()
	for n := 0; n < api.MaxSet; n += 61 { // comes by each place of a word
		alone = append(alone, n)
	}
	for _, n := range alone {
		want := api.Word{At: n / wide, Bits: uint64(1) << (n % wide)}
		if s, e := bits.Of([]int{n}); e != api.OK || len(s) != 1 || s[0] != want {
			t.Fatalf("Of(%d) = %v, %d; want %v, OK", n, s, e, want)
		}
	}
}

// P2.1: one number that is none of a set is refused, wherever it stands.
func TestOfRefuses(t *testing.T) {
	for _, n := range []int{-1, -2, -63, -64, -65, math.MinInt, math.MinInt32, 1_048_576, 1_048_577, 1_048_640, 1 << 21, math.MaxInt32, math.MaxInt} {
		for _, l := range [][]int{{n}, {n, 0}, {0, n}, {0, 1, n, 2, 1_048_575}, {1_048_575, n, n}} {
			if s, e := bits.Of(l); e != api.ErrArg || len(s) != 0 {
				t.Errorf("Of(%v) = %v, %d; want nothing, ErrArg", l, s, e)
			}
		}
	}
}

// P2.1: all numbers at once, and as many of them twice.
func TestAllNumbers(t *testing.T) {
	var l []int
	for n := range api.MaxSet {
		l = append(l, last-n, n)
	}
	s, e := bits.Of(l)
	if e != api.OK || len(s) != words {
		t.Fatalf("Of all numbers: %d words, %d; want %d, OK", len(s), e, words)
	}
	for at, w := range s {
		if w.At != at || w.Bits != full {
			t.Fatalf("word %d of all numbers is %v", at, w)
		}
	}
	if many, e := bits.Size(s); many != api.MaxSet || e != api.OK {
		t.Errorf("Size of all numbers: %d, %d", many, e)
	}
	k, e := bits.List(s)
	if e != api.OK || len(k) != api.MaxSet || k[0] != 0 || k[last] != last || !slices.IsSorted(k) {
		t.Errorf("List of all numbers: %d of them, %d", len(k), e)
	}
	if rest, e := bits.Minus(s, s); e != api.OK || len(rest) != 0 {
		t.Errorf("Minus of all numbers and themselves: %d words, %d", len(rest), e)
	}
	if rest, e := bits.And(s, s); e != api.OK || !slices.Equal(rest, s) {
		t.Errorf("And of all numbers and themselves: %d words, %d", len(rest), e)
	}
}

// P2.1: a set's numbers, rising, and how many they are.
func TestListAndSize(t *testing.T) {
	lists := append(mixed(), choices(edges()[:8])...)
	lists = append(lists, edges(), []int{last, 0}, []int{64, 1, 64})
	for _, l := range lists {
		s := set(t, l...)
		want := sorted(l)
		if k, e := bits.List(s); e != api.OK || !slices.Equal(k, want) {
			t.Errorf("List of %v = %v, %d; want %v, OK", s, k, e, want)
		}
		if many, e := bits.Size(s); e != api.OK || many != len(want) {
			t.Errorf("Size of %v = %d, %d; want %d, OK", s, many, e, len(want))
		}
	}
	for _, s := range []api.Set{nil, {}} {
		if k, e := bits.List(s); e != api.OK || len(k) != 0 {
			t.Errorf("List of nothing = %v, %d", k, e)
		}
		if many, e := bits.Size(s); e != api.OK || many != 0 {
			t.Errorf("Size of nothing = %d, %d", many, e)
		}
	}
}

// P2.1: List and Size tell Check's error, and nothing beside it.
func TestListAndSizeRefuse(t *testing.T) {
	for name, s := range broken() {
		if k, e := bits.List(s); e != api.ErrBad || len(k) != 0 {
			t.Errorf("List of %s = %v, %d; want nothing, ErrBad", name, k, e)
		}
		if many, e := bits.Size(s); e != api.ErrBad || many != 0 {
			t.Errorf("Size of %s = %d, %d; want 0, ErrBad", name, many, e)
		}
	}
}

// P2.1: what is in a set, and what is not.
func TestHas(t *testing.T) {
	near := edges()
	for _, n := range edges() {
		near = append(near, max(n-1, 0), min(n+1, last), min(n+64, last), max(n-64, 0))
	}
	for _, l := range append(choices(edges()[3:9]), nil, edges(), []int{0, last}, []int{last}, []int{0}) {
		s := set(t, l...)
		for _, n := range near {
			if in, e := bits.Has(s, n); e != api.OK || in != slices.Contains(l, n) {
				t.Errorf("Has(%v, %d) = %v, %d; want %v, OK", s, n, in, e, slices.Contains(l, n))
			}
		}
	}
}

// P2.1: a set that may not be is told ahead of a number that none has.
func TestHasRefuses(t *testing.T) {
	outside := []int{-1, -64, math.MinInt, 1_048_576, 1_048_640, math.MaxInt}
	for _, s := range []api.Set{nil, {{At: 0, Bits: full}}, {{At: words - 1, Bits: full}}} {
		for _, n := range outside {
			if in, e := bits.Has(s, n); e != api.ErrArg || in {
				t.Errorf("Has(%v, %d) = %v, %d; want false, ErrArg", s, n, in, e)
			}
		}
	}
	for name, s := range broken() {
		for _, n := range append(outside, 0, 1, 64, 192, last) {
			if in, e := bits.Has(s, n); e != api.ErrBad || in {
				t.Errorf("Has of %s, %d = %v, %d; want false, ErrBad", name, n, in, e)
			}
		}
	}
}

// P2.1: whether all words are the same, of sets that may not be as well.
func TestSame(t *testing.T) {
	all := []api.Set{
		nil, {{At: 0, Bits: 1}}, {{At: 0, Bits: 2}}, {{At: 1, Bits: 1}}, {{At: 0, Bits: 1}, {At: 1, Bits: 1}}, {{At: 0, Bits: 1}, {At: 1, Bits: 3}},
		{{At: 0, Bits: 1 << 63}}, {{At: words - 1, Bits: 1 << 63}}, {{At: 0, Bits: full}},
	}
	for _, s := range broken() {
		all = append(all, s)
	}
	for i, a := range all {
		for k, b := range all {
			if got := bits.Same(a, slices.Clone(b)); got != (i == k) {
				t.Errorf("Same(%v, %v) = %v", a, b, got)
			}
		}
	}
	if !bits.Same(nil, api.Set{}) || !bits.Same(api.Set{}, nil) || !bits.Same(nil, nil) {
		t.Error("no list and an empty one are not the same")
	}
}

// P2.2: the document's example.
func TestOperationsExample(t *testing.T) {
	a, b := set(t, 1, 64), set(t, 1, 2)
	for i, want := range [][]int{{1, 2, 64}, {1}, {64}} {
		op := operations()[i]
		if s, e := op.do(a, b); e != api.OK || !slices.Equal(s, set(t, want...)) {
			t.Errorf("%s of 1, 64 and 1, 2 = %v, %d; want %v, OK", op.name, s, e, want)
		}
	}
}

// mustBe holds what an operation answers against the numbers that the document's words ask for.
func mustBe(t *testing.T, op operation, l, k []int) {
	t.Helper()
	var want []int
	inA, inB := map[int]bool{}, map[int]bool{}
	for _, n := range l {
		inA[n] = true
	}
	for _, n := range k {
		inB[n] = true
	}
	for _, n := range sorted(append(slices.Clone(l), k...)) {
		if op.has(inA[n], inB[n]) {
			want = append(want, n)
		}
	}
	s, e := op.do(byHand(l), byHand(k))
	if e != api.OK || !slices.Equal(s, byHand(want)) {
		t.Fatalf("%s of %v and %v = %v, %d; want %v, OK", op.name, l, k, s, e, want)
	}
	if e := bits.Check(s); e != api.OK {
		t.Fatalf("%s of %v and %v may not be", op.name, l, k)
	}
}

// P2.2: each number is there just if the document's words say so: all pairs of sets of some numbers near the ends of words, and of mixed ones.
func TestOperations(t *testing.T) {
	small := choices([]int{0, 63, 64, 128, 4096, last})
	for _, op := range operations() {
		for _, l := range small {
			for _, k := range small {
				mustBe(t, op, l, k)
			}
		}
		for i, l := range mixed() {
			for _, k := range mixed()[i%5:] {
				if len(l)+len(k) < 120 {
					mustBe(t, op, l, k)
				}
			}
		}
	}
}

// P2.2: one of both may be empty, or nil.
func TestOperationsOfNothing(t *testing.T) {
	a := set(t, edges()...)
	for _, none := range []api.Set{nil, {}} {
		for _, c := range []struct {
			op   operation
			l, k api.Set
			want api.Set
		}{
			{operations()[0], a, none, a}, {operations()[0], none, a, a}, {operations()[0], none, nil, nil},
			{operations()[1], a, none, nil}, {operations()[1], none, a, nil}, {operations()[1], none, nil, nil},
			{operations()[2], a, none, a}, {operations()[2], none, a, nil}, {operations()[2], none, nil, nil},
		} {
			if s, e := c.op.do(c.l, c.k); e != api.OK || !slices.Equal(s, c.want) {
				t.Errorf("%s of %v and %v = %v, %d; want %v, OK", c.op.name, c.l, c.k, s, e, c.want)
			}
		}
	}
}

// P2.2: a set that may not be is refused on either side, beside whichever other one.
func TestOperationsRefuse(t *testing.T) {
	well := []api.Set{nil, {{At: 0, Bits: 1}}, {{At: 3, Bits: 3}, {At: words - 1, Bits: full}}}
	for _, op := range operations() {
		for name, s := range broken() {
			for _, other := range append(well, s) {
				if r, e := op.do(s, other); e != api.ErrBad || len(r) != 0 {
					t.Errorf("%s of %s and %v = %v, %d; want nothing, ErrBad", op.name, name, other, r, e)
				}
				if r, e := op.do(other, s); e != api.ErrBad || len(r) != 0 {
					t.Errorf("%s of %v and %s = %v, %d; want nothing, ErrBad", op.name, other, name, r, e)
				}
			}
		}
	}
}

// roomy answers l with room behind it, that holds what nobody may touch.
func roomy[T any](l []T, mark T) (own, whole []T) {
	whole = slices.Clone(l)
	for range 8 {
		whole = append(whole, mark)
	}
	return whole[:len(l)], whole
}

// P2.3: what is handed in is only read, also behind its end.
func TestOnlyRead(t *testing.T) {
	mark := api.Word{At: -7, Bits: 7}
	for _, l := range [][]int{nil, {5}, {64, 1, 64}, {last, 0, 63}, {3, -1}, {3, api.MaxSet, 2}} {
		own, whole := roomy(l, -7)
		held := slices.Clone(whole)
		bits.Of(own)
		if !slices.Equal(whole, held) {
			t.Errorf("Of turned %v into %v", held, whole)
		}
	}
	sets := []api.Set{nil, {{At: 0, Bits: 1}}, {{At: 1, Bits: 5}, {At: 4, Bits: 9}, {At: words - 1, Bits: 1}}, {{At: 9, Bits: 1}, {At: 2, Bits: 0}}}
	for _, first := range sets {
		for _, second := range sets {
			a, wholeA := roomy(first, mark)
			b, wholeB := roomy(second, mark)
			heldA, heldB := slices.Clone(wholeA), slices.Clone(wholeB)
			bits.Check(a)
			bits.List(a)
			bits.Size(a)
			bits.Has(a, 64)
			bits.Same(a, b)
			for _, op := range operations() {
				op.do(a, b)
			}
			if !slices.Equal(wholeA, heldA) || !slices.Equal(wholeB, heldB) {
				t.Errorf("what was handed in, %v and %v, is %v and %v", heldA, heldB, wholeA, wholeB)
			}
		}
	}
}

// P2.3: what is answered is new memory: turned through and through, it leaves all else as it was.
func TestNewMemory(t *testing.T) {
	spoil := func(s api.Set) {
		for i := range s[:cap(s)] {
			s[:cap(s)][i] = api.Word{At: -9, Bits: 9}
		}
	}
	for _, l := range [][]int{nil, {1}, {1, 64, 200}, edges()} {
		for _, k := range [][]int{nil, {1}, {2, 64}, edges()} {
			a, b := set(t, l...), set(t, k...)
			for _, op := range operations() {
				for _, pair := range [][2]api.Set{{a, b}, {b, a}, {a, a}} {
					first, _ := op.do(pair[0], pair[1])
					second, _ := op.do(pair[0], pair[1])
					want := slices.Clone(second)
					spoil(first)
					if !slices.Equal(a, byHand(l)) || !slices.Equal(b, byHand(k)) || !slices.Equal(second, want) {
						t.Fatalf("%s of %v and %v shares memory", op.name, l, k)
					}
				}
			}
		}
	}
}

// P2.3: nor do a list and a set share memory, nor two answers.
func TestNewMemoryOfLists(t *testing.T) {
	l := []int{0, 1, 64}
	s, again := set(t, l...), set(t, l...)
	s[0] = api.Word{At: 5, Bits: 5}
	if !slices.Equal(l, []int{0, 1, 64}) || !slices.Equal(again, byHand(l)) || !slices.Equal(set(t, l...), byHand(l)) {
		t.Error("Of shares memory")
	}
	first, _ := bits.List(again)
	second, _ := bits.List(again)
	for i := range first[:cap(first)] {
		first[:cap(first)][i] = -5
	}
	if !slices.Equal(second, l) || !slices.Equal(again, byHand(l)) {
		t.Error("List shares memory")
	}
}

// P2.4: two sets are the same just if they have the same numbers; and a set is that of its numbers.
func TestToldByItsNumbers(t *testing.T) {
	lists := append(choices([]int{0, 1, 63, 64, last}), mixed()...)
	for _, l := range lists {
		for _, k := range lists {
			same := slices.Equal(sorted(l), sorted(k))
			if bits.Same(byHand(l), byHand(k)) != same {
				t.Fatalf("Same of %v and %v is not %v", l, k, same)
			}
		}
		s := set(t, l...)
		numbers, e := bits.List(s)
		if e != api.OK || !bits.Same(set(t, numbers...), s) {
			t.Errorf("the set of the numbers of %v is another one", l)
		}
		slices.Reverse(numbers)
		if !bits.Same(set(t, append(numbers, l...)...), s) {
			t.Errorf("%v is another set in another order", l)
		}
		for _, n := range append(edges(), l...) {
			if in, e := bits.Has(s, n); e != api.OK || in != slices.Contains(l, n) {
				t.Errorf("Has(%v, %d) = %v, %d", l, n, in, e)
			}
		}
	}
}

// law answers a function that puts two sets together by an operation, and stops the test where it does not.
func law(t *testing.T, op operation) func(a, b api.Set) api.Set {
	return func(a, b api.Set) api.Set {
		s, e := op.do(a, b)
		if e != api.OK {
			t.Fatalf("%s of %v and %v: %d", op.name, a, b, e)
		}
		return s
	}
}

// P2.4: Or and And go together as or and and do, of three sets as well.
func TestOrAndAndGoTogether(t *testing.T) {
	or, and := law(t, operations()[0]), law(t, operations()[1])
	var sets []api.Set
	for _, l := range append(choices([]int{1, 64, last}), edges(), []int{0, 1, 2, 3}, []int{64, 65, 4096}) {
		sets = append(sets, byHand(l))
	}
	for _, a := range sets {
		for _, b := range sets {
			for _, c := range sets {
				for name, pair := range map[string][2]api.Set{
					"Or turned round":   {or(a, b), or(b, a)},
					"And turned round":  {and(a, b), and(b, a)},
					"Or of three":       {or(or(a, b), c), or(a, or(b, c))},
					"And of three":      {and(and(a, b), c), and(a, and(b, c))},
					"And of an Or":      {and(a, or(b, c)), or(and(a, b), and(a, c))},
					"Or of an And":      {or(a, and(b, c)), and(or(a, b), or(a, c))},
					"Or of its own And": {or(a, and(a, b)), a},
					"And of its own Or": {and(a, or(a, b)), a},
					"Or with itself":    {or(a, a), a},
					"And with itself":   {and(a, a), a},
					"Or with nothing":   {or(a, nil), a},
					"And with nothing":  {and(a, nil), nil},
				} {
					if !bits.Same(pair[0], pair[1]) {
						t.Fatalf("%s of %v, %v, %v: %v and %v", name, a, b, c, pair[0], pair[1])
					}
				}
			}
		}
	}
}

// P2.4: Minus takes out just what And has, and both together are the whole.
func TestMinusTakesOutWhatAndHas(t *testing.T) {
	or, and, minus := law(t, operations()[0]), law(t, operations()[1]), law(t, operations()[2])
	var sets []api.Set
	for _, l := range append(choices([]int{0, 63, 64, 65, last}), mixed()...) {
		sets = append(sets, byHand(l))
	}
	for _, a := range sets {
		for _, b := range sets {
			for name, pair := range map[string][2]api.Set{
				"what is left and what And has": {or(minus(a, b), and(a, b)), a},
				"what both of these have":       {and(minus(a, b), and(a, b)), nil},
				"without what And has":          {minus(a, and(a, b)), minus(a, b)},
				"without what is left":          {minus(a, minus(a, b)), and(a, b)},
				"what is left, in b":            {and(minus(a, b), b), nil},
				"with b again":                  {or(minus(a, b), b), or(a, b)},
				"without itself":                {minus(a, a), nil},
				"without nothing":               {minus(a, nil), a},
			} {
				if !bits.Same(pair[0], pair[1]) {
					t.Fatalf("%s, of %v and %v: %v and %v", name, a, b, pair[0], pair[1])
				}
			}
			inA, _ := bits.Size(a)
			left, _ := bits.Size(minus(a, b))
			met, _ := bits.Size(and(a, b))
			if left+met != inA {
				t.Fatalf("of %d numbers %d are left, and %d taken out", inA, left, met)
			}
		}
	}
}

// P1: a call answers the same again.
func TestAgain(t *testing.T) {
	a, b := set(t, edges()...), set(t, 1, 64, 999)
	for _, op := range operations() {
		want, _ := op.do(a, b)
		for range 3 {
			op.do(b, a)
			op.do(api.Set{{}}, a)
			if s, e := op.do(a, b); e != api.OK || !slices.Equal(s, want) {
				t.Errorf("%s answers %v, %d, and %v ahead", op.name, s, e, want)
			}
		}
	}
}
