package types_test

import (
	"math"
	"slices"
	"testing"

	"fescue/api"
	"fescue/types"
)

const (
	least = math.MinInt
	most  = math.MaxInt
)

func integer() api.Type               { return api.Type{Kind: api.KInt} }
func pointer(to int) api.Type         { return api.Type{Kind: api.KPtr, Elem: to} }
func structure(parts ...int) api.Type { return api.Type{Kind: api.KStruct, Parts: parts} }
func array(of, many int) api.Type     { return api.Type{Kind: api.KArray, Elem: of, Many: many} }
func function(answer int, parameters ...int) api.Type {
	return api.Type{Kind: api.KFn, Elem: answer, Parts: parameters}
}

// example answers the document's first table.
func example() []api.Type {
	return []api.Type{integer(), pointer(2), structure(0, 1), array(2, 2)}
}

// many answers a table of that many types, each an integer.
func many(n int) []api.Type {
	t := make([]api.Type, n)
	for k := range t {
		t[k] = integer()
	}
	return t
}

// copied answers t in new memory, type by type and number by number.
func copied(t []api.Type) []api.Type {
	c := make([]api.Type, len(t))
	for k, y := range t {
		c[k] = api.Type{Kind: y.Kind, Elem: y.Elem, Many: y.Many, Parts: append(make([]int, 0, len(y.Parts)), y.Parts...)}
	}
	return c
}

// zeros answers a list of n zeros.
func zeros(n int) []int { return make([]int, n) }

// isScalar tells by the document's words whether n is a scalar's number.
func isScalar(t []api.Type, n int) bool {
	return n >= 0 && n < len(t) && (t[n].Kind == 1 || t[n].Kind == 2 || t[n].Kind == 3)
}

// cellsOf tells by the document's words the cells of the type k, if all types up to it may be.
func cellsOf(t []api.Type, k int) []int {
	var l []int
	switch t[k].Kind {
	case 4:
		for _, p := range t[k].Parts {
			l = append(l, cellsOf(t, p)...)
		}
	case 5:
		for range t[k].Many {
			l = append(l, cellsOf(t, t[k].Elem)...)
		}
	default:
		l = []int{k}
	}
	return l
}

// named tells by the document's words whether the type k has what its kind names, and nothing else.
func named(t []api.Type, k int) bool {
	y := t[k]
	elem, times, parts := y.Elem != 0, y.Many != 0, len(y.Parts) != 0
	switch y.Kind {
	case 1:
		return !elem && !times && !parts
	case 2:
		return y.Elem >= 0 && y.Elem < len(t) && !times && !parts
	case 3:
		for _, p := range y.Parts {
			if !isScalar(t, p) {
				return false
			}
		}
		return isScalar(t, y.Elem) && !times && len(y.Parts) <= 4
	case 4:
		for _, p := range y.Parts {
			if p < 0 || p >= k {
				return false
			}
		}
		return !elem && !times && parts && len(y.Parts) <= 8
	case 5:
		return y.Elem >= 0 && y.Elem < k && y.Many >= 1 && y.Many <= 16 && !parts
	}
	return false
}

// asked tells by the document's words what Check answers of t.
func asked(t []api.Type) api.Errno {
	if len(t) > 16 {
		return api.ErrMany
	}
	for k := range t {
		if !named(t, k) || len(cellsOf(t, k)) > 32 {
			return api.ErrType
		}
	}
	return api.OK
}

// well answers tables that may be, with the edges that the document names.
func well() map[string][]api.Type {
	return map[string][]api.Type{
		"nil": nil, "no type": {}, "one type": many(1), "16 types": many(16), "the example": example(),
		"a pointer to itself":         {pointer(0)},
		"a pointer to a higher one":   {pointer(1), structure(0)},
		"a pointer to the last one":   append([]api.Type{pointer(15)}, many(15)...),
		"two that point to another":   {pointer(1), pointer(0)},
		"a function of itself":        {function(0, 0, 0)},
		"a function of nothing":       {integer(), function(0)},
		"a function of one":           {integer(), function(0, 1)},
		"a function of 4":             {integer(), pointer(0), function(1, 0, 1, 2, 0)},
		"a function of higher ones":   {function(1, 2, 3), integer(), pointer(3), function(0)},
		"a function, its list empty":  {integer(), {Kind: api.KFn, Parts: []int{}}},
		"an int, its list empty":      {{Kind: api.KInt, Parts: []int{}}},
		"a pointer, its list empty":   {{Kind: api.KPtr, Parts: []int{}}},
		"an array, its list empty":    {integer(), {Kind: api.KArray, Many: 1, Parts: []int{}}},
		"a struct of 1":               {integer(), structure(0)},
		"a struct of 8":               {integer(), structure(zeros(8)...)},
		"a struct of the one ahead":   {integer(), structure(0), structure(1, 0, 1)},
		"an array of 1":               {integer(), array(0, 1)},
		"an array of 16":              {integer(), array(0, 16)},
		"an array of the one ahead":   {integer(), pointer(0), array(1, 3)},
		"32 cells, of arrays":         {integer(), array(0, 16), array(1, 2)},
		"32 cells, 16 times":          {integer(), structure(0, 0), array(1, 16)},
		"32 cells, of a struct":       {integer(), array(0, 4), structure(1, 1, 1, 1, 1, 1, 1, 1)},
		"32 cells, of parts":          {integer(), array(0, 16), structure(1, 1)},
		"32 cells, of unlike parts":   {integer(), array(0, 16), array(0, 15), structure(0, 1, 2)},
		"a pointer to 32 cells":       {pointer(2), array(0, 16), array(1, 2), pointer(2), function(3, 3, 3, 3, 3)},
		"one in the other, 15 times":  nested(),
		"each of 32 cells":            wide(),
		"a struct of the kinds":       {integer(), pointer(3), function(1, 0), structure(0, 1, 2), array(3, 10)},
		"an array in an array, 4 ups": {integer(), array(0, 2), array(1, 2), array(2, 2), array(3, 4)},
	}
}

// nested answers a table of 16 types, each but the first with the one ahead as its only part.
func nested() []api.Type {
	t := []api.Type{pointer(15)}
	for k := range 15 {
		if k%2 == 0 {
			t = append(t, structure(k))
		} else {
			t = append(t, array(k, 1))
		}
	}
	return t
}

// wide answers a table of 16 types, the most of which have 32 cells.
func wide() []api.Type {
	t := []api.Type{integer(), array(0, 16), array(1, 2)}
	for k := 2; len(t) < 16; k++ {
		t = append(t, structure(k))
	}
	return t
}

// broken answers tables of at most 16 types that may not be.
func broken() map[string][]api.Type {
	all := map[string][]api.Type{
		"a struct of itself":               {structure(0)},
		"an array of itself":               {array(0, 1)},
		"a pointer to no type":             {pointer(1)},
		"a pointer far out":                {integer(), pointer(most)},
		"a pointer below":                  {integer(), pointer(-1)},
		"a pointer far below":              {integer(), pointer(least)},
		"the last points to no type":       append(many(15), pointer(16)),
		"kind 0":                           {{}},
		"kind 6":                           {{Kind: 6}},
		"kind 255":                         {{Kind: 255}},
		"kind 0 behind":                    {integer(), pointer(0), {}},
		"kind 0 ahead":                     {{}, integer()},
		"an int of Elem":                   {integer(), {Kind: api.KInt, Elem: 1}},
		"an int of Many":                   {{Kind: api.KInt, Many: 1}},
		"an int of Parts":                  {{Kind: api.KInt, Parts: []int{0}}},
		"an int of an Elem below":          {{Kind: api.KInt, Elem: -1}},
		"a pointer of Many":                {{Kind: api.KPtr, Many: 1}},
		"a pointer of Parts":               {{Kind: api.KPtr, Parts: []int{0}}},
		"a function of Many":               {{Kind: api.KFn, Many: 1}},
		"a function of Many below":         {{Kind: api.KFn, Many: -1}},
		"a struct of Elem":                 {integer(), {Kind: api.KStruct, Elem: 1, Parts: []int{0}}},
		"a struct of Many":                 {integer(), {Kind: api.KStruct, Many: 1, Parts: []int{0}}},
		"an array of Parts":                {integer(), {Kind: api.KArray, Many: 1, Parts: []int{0}}},
		"a function of 5":                  {integer(), function(0, zeros(5)...)},
		"a function of many":               {integer(), function(0, zeros(100_000)...)},
		"a function that answers a struct": {integer(), structure(0), function(1)},
		"a function that answers an array": {integer(), array(0, 1), function(1)},
		"a function that answers no type":  {integer(), function(2)},
		"a function that answers below":    {integer(), function(-1)},
		"a function of a struct":           {integer(), structure(0), function(0, 0, 1)},
		"a function of an array":           {function(0, 0, 0, 0, 2), integer(), array(1, 2)},
		"a function of no type":            {integer(), function(0, 0, 2)},
		"a function of one below":          {integer(), function(0, -1, 0)},
		"a function of one far out":        {integer(), function(0, most)},
		"a function of one far below":      {integer(), function(least)},
		"a struct of nothing":              {integer(), structure()},
		"a struct of an empty list":        {integer(), structure([]int{}...)},
		"a struct of 9":                    {integer(), structure(zeros(9)...)},
		"a struct of many":                 {integer(), structure(zeros(100_000)...)},
		"a struct of itself, too":          {integer(), structure(0, 1)},
		"a struct of a higher one":         {integer(), structure(0, 2), integer()},
		"a struct of two of each other":    {structure(1), structure(0)},
		"a struct of no type":              {integer(), structure(2)},
		"a struct of one below":            {integer(), structure(0, -1)},
		"a struct of one far below":        {integer(), structure(least, 0)},
		"a struct of one far out":          {integer(), structure(most)},
		"an array of a higher one":         {integer(), array(2, 1), integer()},
		"an array of no type":              {integer(), array(2, 1)},
		"an array of one below":            {integer(), array(-1, 1)},
		"an array of one far out":          {integer(), array(most, 16)},
		"an array of 0":                    {integer(), array(0, 0)},
		"an array of 17":                   {integer(), array(0, 17)},
		"an array of -1":                   {integer(), array(0, -1)},
		"an array far too long":            {integer(), array(0, most)},
		"an array far below":               {integer(), array(0, least)},
		"33 cells, of parts":               {integer(), array(0, 16), structure(0, 1, 1)},
		"33 cells, of an array":            {integer(), structure(0, 0, 0), array(1, 11)},
		"34 cells, of an array":            {integer(), array(0, 2), array(1, 16), array(0, 16), structure(3, 3, 1)},
		"48 cells":                         {integer(), array(0, 16), array(1, 3)},
		"64 cells, of 32 twice":            {integer(), array(0, 16), array(1, 2), array(2, 2)},
		"512 cells":                        {integer(), array(0, 16), array(1, 2), array(2, 16)},
		"33 cells, and others behind":      {integer(), array(0, 16), structure(1, 1, 0), integer(), pointer(2)},
		"one may not be, others well":      append(example(), structure(4)),
	}
	// Each is 16 times the one ahead: of cells there would be more than any number tells.
	huge := []api.Type{integer()}
	for k := range 15 {
		huge = append(huge, array(k, 16))
	}
	all["16 to the power of 15 cells"] = huge
	return all
}

// mixed answers tables by the thousand, that come out alike each time: most types have what their kind names, or next to it.
func mixed() [][]api.Type {
	state := uint64(1)
	next := func(below int) int {
		state = state*6364136223846793005 + 1442695040888963407
		return int((state >> 33) % uint64(below))
	}
	list := func(size, below int) []int {
		var l []int
		for range size {
			l = append(l, next(below))
		}
		return l
	}
	var all [][]api.Type
	for size := 1; size <= 17; size++ {
		for range 400 {
			t := []api.Type{integer()}
			for k := 1; k < size; k++ {
				odd := 0
				if next(30) == 0 {
					odd = 1
				}
				t = append(t, []api.Type{
					integer(), pointer(next(size + odd)), function(next(min(k, 2)), list(next(5+odd), 1+next(k))...),
					structure(list(1+next(3)-odd, k+odd)...), array(next(k+odd), next(4)+1-odd), array(next(k), 1+next(16)),
				}[next(6)])
			}
			all = append(all, t)
		}
	}
	return all
}

// mustCheck holds Check's answer of t against the one that the document's words ask for.
func mustCheck(t *testing.T, table []api.Type, want api.Errno) {
	t.Helper()
	if e := types.Check(table); e != want || asked(table) != want {
		t.Errorf("Check of %v: %d; want %d", table, e, want)
	}
}

// P3.1: tables that may be, and that may not.
func TestCheck(t *testing.T) {
	for name, table := range well() {
		if e := types.Check(table); e != api.OK {
			t.Errorf("Check of %s: %d; want OK", name, e)
		}
	}
	for name, table := range broken() {
		if e := types.Check(table); e != api.ErrType {
			t.Errorf("Check of %s: %d; want ErrType", name, e)
		}
	}
	for _, table := range [][]api.Type{{structure(0)}, {array(0, 1)}, {pointer(1)}} { // the document's examples
		mustCheck(t, table, api.ErrType)
	}
}

// P3.1: too many types are told ahead of one that may not be.
func TestCheckMany(t *testing.T) {
	mustCheck(t, many(16), api.OK)
	mustCheck(t, many(17), api.ErrMany)
	mustCheck(t, many(100_000), api.ErrMany)
	mustCheck(t, make([]api.Type, 16), api.ErrType)
	mustCheck(t, make([]api.Type, 17), api.ErrMany)
	for _, table := range broken() {
		mustCheck(t, append(many(17), table...), api.ErrMany)
		mustCheck(t, append(copied(table), many(17)...), api.ErrMany)
	}
}

// P3.1: a type between others, with each kind, and each choice of what it has, near the edges.
func TestCheckEachField(t *testing.T) {
	ahead := []api.Type{integer(), pointer(5), structure(0, 1), array(0, 16)}
	numbers := []int{0, 1, 2, 3, 4, 5, 6, -1, least, most}
	lists := [][]int{nil, {}, zeros(1), zeros(4), zeros(5), zeros(8), zeros(9), {3, 3}, {3, 3, 0}, {0, 3, 3}, {5, 1, 0, 4}, {2, 3, 2, 0}}
	for _, n := range numbers {
		lists = append(lists, []int{n}, []int{0, n}, []int{n, 1, 0})
	}
	for _, kind := range []uint8{0, 1, 2, 3, 4, 5, 6, 7, 128, 255} {
		for _, elem := range numbers {
			for _, times := range []int{0, 1, 2, 3, 15, 16, 17, -1, least, most} {
				for _, parts := range lists {
					y := api.Type{Kind: kind, Elem: elem, Many: times, Parts: parts}
					table := append(slices.Clone(ahead), y, integer())
					if e := types.Check(table); e != asked(table) {
						t.Fatalf("Check of %v: %d; want %d", table, e, asked(table))
					}
				}
			}
		}
	}
}

// P3.1: tables of all sorts.
func TestCheckMixed(t *testing.T) {
	told := map[api.Errno]int{}
	for _, table := range mixed() {
		want := asked(table)
		told[want]++
		if e := types.Check(table); e != want {
			t.Fatalf("Check of %v: %d; want %d", table, e, want)
		}
	}
	if told[api.OK] < 500 || told[api.ErrType] < 500 || told[api.ErrMany] < 100 {
		t.Errorf("tables are too much alike: %v", told)
	}
}

// P3.1: any two tables are the same just if all is the same.
func TestSame(t *testing.T) {
	all := [][]api.Type{
		nil, {{}}, {{}, {}}, {integer()}, {pointer(0)}, {pointer(1)}, {pointer(-1)}, {{Kind: 255}},
		{{Many: 1}}, {{Many: -1}}, {structure(0)}, {structure(0, 0)}, {structure(0, 1)}, {structure(1, 0)}, {function(0, 0)}, {function(1, 0)},
		{integer(), integer()}, {integer(), pointer(0)}, {pointer(0), integer()}, {integer(), array(0, 2)}, {integer(), array(0, 3)}, {integer(), array(0, 2), integer()},
		{{Kind: api.KStruct, Elem: 1, Many: 2, Parts: []int{3}}}, {{Kind: api.KStruct, Elem: 1, Many: 2, Parts: []int{4}}}, {{Kind: api.KStruct, Elem: 1, Many: 2}},
		example(), example()[:3], many(16), many(17), many(1000), append(many(999), pointer(0)),
	}
	for i, a := range all {
		for k, b := range all {
			if got := types.Same(a, copied(b)); got != (i == k) {
				t.Errorf("Same(%v, %v) = %v", a, b, got)
			}
		}
	}
}

// P3.1: a list that is empty and one that is nil are the same.
func TestSameOfNothing(t *testing.T) {
	if !types.Same(nil, nil) || !types.Same(nil, []api.Type{}) || !types.Same([]api.Type{}, nil) {
		t.Error("no table and an empty one are not the same")
	}
	empty, none := []api.Type{{Kind: 9, Parts: []int{}}}, []api.Type{{Kind: 9}}
	if !types.Same(empty, none) || !types.Same(none, empty) {
		t.Error("no parts and an empty list of them are not the same")
	}
}

// P3.1: a table's twin is the same, whether it may be or not.
func TestTwin(t *testing.T) {
	all := append(mixed(), many(1000), make([]api.Type, 40), []api.Type{{Kind: 77, Elem: least, Many: most, Parts: []int{least, most, 7}}})
	for _, table := range well() {
		all = append(all, table)
	}
	for _, table := range broken() {
		all = append(all, table)
	}
	for _, table := range all {
		twin := types.Twin(table)
		if len(twin) != len(table) {
			t.Fatalf("Twin of %d types has %d", len(table), len(twin))
		}
		for k, y := range twin {
			o := table[k]
			if y.Kind != o.Kind || y.Elem != o.Elem || y.Many != o.Many || !slices.Equal(y.Parts, o.Parts) {
				t.Fatalf("Twin of %v has %v", o, y)
			}
		}
		if !types.Same(table, twin) {
			t.Fatalf("%v is not the same as its twin", table)
		}
	}
}

// mustTell holds what all calls answer of a table, a type and a part: one error of them, and zero values beside it.
func mustTell(t *testing.T, table []api.Type, k, n int, want api.Errno) {
	t.Helper()
	if is, e := types.Scalar(table, k); is || e != want {
		t.Errorf("Scalar(%v, %d) = %v, %d; want false, %d", table, k, is, e, want)
	}
	if l, e := types.Cells(table, k); len(l) != 0 || e != want {
		t.Errorf("Cells(%v, %d) = %v, %d; want nothing, %d", table, k, l, e, want)
	}
	mustTellPart(t, table, k, n, want)
}

func mustTellPart(t *testing.T, table []api.Type, k, n int, want api.Errno) {
	t.Helper()
	if p, e := types.Part(table, k, n); p != 0 || e != want {
		t.Errorf("Part(%v, %d, %d) = %d, %d; want 0, %d", table, k, n, p, e, want)
	}
	if at, e := types.Offset(table, k, n); at != 0 || e != want {
		t.Errorf("Offset(%v, %d, %d) = %d, %d; want 0, %d", table, k, n, at, e, want)
	}
}

// P3.1: Check's error is told ahead of all others.
func TestCheckFirst(t *testing.T) {
	for _, k := range []int{0, 1, 2, 15, 16, 17, -1, least, most} {
		for _, n := range []int{0, 1, -1, least, most} {
			for _, table := range broken() {
				mustTell(t, table, k, n, api.ErrType)
			}
			mustTell(t, many(17), k, n, api.ErrMany)
			mustTell(t, make([]api.Type, 18), k, n, api.ErrMany)
		}
	}
}

// P3.1: what is no type's number is refused.
func TestNoType(t *testing.T) {
	for _, table := range well() {
		for _, k := range []int{-1, -2, -16, least, len(table), len(table) + 1, 16, 17, math.MaxInt32, most} {
			for _, n := range []int{0, 1, -1, most} {
				mustTell(t, table, k, n, api.ErrArg)
			}
		}
	}
}

// P3.2: what is a scalar, and what is none.
func TestScalar(t *testing.T) {
	table := []api.Type{integer(), pointer(4), function(0, 1), structure(0), array(0, 1), pointer(0), structure(5, 2)}
	for k, want := range []bool{true, true, true, false, false, true, false} {
		if is, e := types.Scalar(table, k); is != want || e != api.OK {
			t.Errorf("Scalar(%d) = %v, %d; want %v, OK", k, is, e, want)
		}
	}
	for _, table := range well() {
		for k := range table {
			if is, e := types.Scalar(table, k); is != isScalar(table, k) || e != api.OK {
				t.Errorf("Scalar(%v, %d) = %v, %d", table, k, is, e)
			}
		}
	}
}

// P3.2: a type's cells, in order.
func TestCells(t *testing.T) {
	kinds := []api.Type{integer(), pointer(6), function(0, 0), array(1, 3), structure(2, 3, 0), array(4, 2), structure(5, 1, 4)}
	four := []int{2, 1, 1, 1, 0}
	five := slices.Concat(four, four)
	for _, c := range []struct {
		table []api.Type
		k     int
		want  []int
	}{
		{example(), 3, []int{0, 1, 0, 1}}, {example(), 2, []int{0, 1}}, {example(), 1, []int{1}}, {example(), 0, []int{0}},
		{kinds, 0, []int{0}}, {kinds, 1, []int{1}}, {kinds, 2, []int{2}}, {kinds, 3, []int{1, 1, 1}},
		{kinds, 4, four}, {kinds, 5, five}, {kinds, 6, slices.Concat(five, []int{1}, four)},
		{[]api.Type{integer(), array(0, 16)}, 1, zeros(16)}, {[]api.Type{integer(), array(0, 1)}, 1, zeros(1)},
		{nested(), 15, []int{0}}, {nested(), 0, []int{0}}, {wide(), 15, zeros(32)}, {wide(), 2, zeros(32)},
		{[]api.Type{function(0)}, 0, []int{0}}, {[]api.Type{pointer(0), function(0, 0, 1), structure(1, 0)}, 2, []int{1, 0}},
	} {
		if l, e := types.Cells(c.table, c.k); e != api.OK || !slices.Equal(l, c.want) {
			t.Errorf("Cells(%v, %d) = %v, %d; want %v, OK", c.table, c.k, l, e, c.want)
		}
	}
}

// P3.2: the cells of tables of all sorts, as the document's words have them.
func TestCellsMixed(t *testing.T) {
	for _, table := range mixed() {
		if asked(table) != api.OK {
			continue
		}
		for k := range table {
			if l, e := types.Cells(table, k); e != api.OK || !slices.Equal(l, cellsOf(table, k)) {
				t.Fatalf("Cells(%v, %d) = %v, %d; want %v, OK", table, k, l, e, cellsOf(table, k))
			}
		}
	}
}

// P3.3: a part's type, and how many cells stand ahead of it.
func TestParts(t *testing.T) {
	kinds := []api.Type{integer(), pointer(6), function(0, 0), array(1, 3), structure(2, 3, 0), array(4, 2), structure(5, 1, 4)}
	for _, c := range []struct {
		table       []api.Type
		k           int
		parts, away []int
	}{
		{example(), 2, []int{0, 1}, []int{0, 1}}, {example(), 3, []int{2, 2}, []int{0, 2}},
		{kinds, 3, []int{1, 1, 1}, []int{0, 1, 2}}, {kinds, 4, []int{2, 3, 0}, []int{0, 1, 4}},
		{kinds, 5, []int{4, 4}, []int{0, 5}}, {kinds, 6, []int{5, 1, 4}, []int{0, 10, 11}},
		{nested(), 15, []int{14}, []int{0}}, {wide(), 2, []int{1, 1}, []int{0, 16}}, {wide(), 15, []int{14}, []int{0}},
		{[]api.Type{integer(), structure(zeros(8)...)}, 1, zeros(8), []int{0, 1, 2, 3, 4, 5, 6, 7}},
		{[]api.Type{integer(), array(0, 4), structure(1, 1, 1, 1, 1, 1, 1, 1)}, 2, []int{1, 1, 1, 1, 1, 1, 1, 1}, []int{0, 4, 8, 12, 16, 20, 24, 28}},
		{[]api.Type{integer(), structure(0, 0), array(1, 16)}, 2, slices.Repeat([]int{1}, 16), []int{0, 2, 4, 6, 8, 10, 12, 14, 16, 18, 20, 22, 24, 26, 28, 30}},
	} {
		for n := range c.parts {
			if p, e := types.Part(c.table, c.k, n); p != c.parts[n] || e != api.OK {
				t.Errorf("Part(%v, %d, %d) = %d, %d; want %d, OK", c.table, c.k, n, p, e, c.parts[n])
			}
			if at, e := types.Offset(c.table, c.k, n); at != c.away[n] || e != api.OK {
				t.Errorf("Offset(%v, %d, %d) = %d, %d; want %d, OK", c.table, c.k, n, at, e, c.away[n])
			}
		}
		for _, n := range []int{-1, -2, least, len(c.parts), len(c.parts) + 1, 16, 17, 32, math.MaxInt32, most} {
			mustTellPart(t, c.table, c.k, n, api.ErrArg)
		}
	}
}

// P3.3: a scalar has no part, a function of parameters as little as others.
func TestNoPart(t *testing.T) {
	table := []api.Type{integer(), pointer(4), function(0, 0, 1, 0, 1), function(1), structure(0, 1), pointer(4)}
	for _, k := range []int{0, 1, 2, 3, 5} {
		for _, n := range []int{0, 1, 2, 3, 4, -1, least, most} {
			mustTellPart(t, table, k, n, api.ErrArg)
		}
	}
}

// roomy answers l with room behind it, that holds what nobody may touch.
func roomy[T any](l []T, mark T) (own, whole []T) {
	whole = slices.Clone(l)
	for range 8 {
		whole = append(whole, mark)
	}
	return whole[:len(l)], whole
}

// same tells of two tables whether they have just the same, their lists' room behind their ends included.
func same(a, b []api.Type) bool {
	return slices.EqualFunc(a, b, func(x, y api.Type) bool {
		return x.Kind == y.Kind && x.Elem == y.Elem && x.Many == y.Many && slices.Equal(x.Parts[:cap(x.Parts)], y.Parts[:cap(y.Parts)])
	})
}

// P3.4: what is handed in is only read, also behind its end.
func TestOnlyRead(t *testing.T) {
	all := [][]api.Type{example(), many(17), {structure(0)}}
	for _, table := range well() {
		all = append(all, table)
	}
	for _, table := range broken() {
		all = append(all, table)
	}
	for _, table := range all {
		own, whole := roomy(table, api.Type{Kind: 99, Elem: -7, Many: -7})
		held := slices.Clone(whole)
		for k := range own {
			_, parts := roomy(own[k].Parts, -7)
			own[k].Parts = parts[: len(parts)-8 : len(parts)]
			held[k] = own[k]
			held[k].Parts = slices.Clip(slices.Clone(parts))[: len(parts)-8 : len(parts)]
		}
		types.Check(own)
		types.Same(own, own)
		types.Same(own, example())
		types.Twin(own)
		for k := -1; k <= min(len(own), 17); k++ {
			types.Scalar(own, k)
			types.Cells(own, k)
			for n := -1; n < 18; n++ {
				types.Part(own, k, n)
				types.Offset(own, k, n)
			}
		}
		if !same(whole, held) {
			t.Errorf("what was handed in, %v, is %v", held, whole)
		}
	}
}

// P3.4: a twin is new memory: turned through and through, it leaves all else as it was, its own lists as well.
func TestTwinIsNew(t *testing.T) {
	shared := []int{0, 1, 0}
	for _, table := range [][]api.Type{example(), {integer(), pointer(0), structure(shared...), structure(shared...), function(0, shared[:2]...)}, {{Kind: 99, Parts: shared}}} {
		held, twin, again := copied(table), types.Twin(table), types.Twin(table)
		for k := range twin {
			parts := twin[k].Parts
			twin[k] = api.Type{Kind: 200, Elem: -9, Many: -9}
			for i := range parts[:cap(parts)] {
				parts[:cap(parts)][i] = -9
			}
			for later := k + 1; later < len(twin); later++ {
				if !types.Same(twin[later:later+1], held[later:later+1]) {
					t.Fatalf("two lists of a twin of %v share memory", table)
				}
			}
		}
		if !types.Same(table, held) || !types.Same(again, held) {
			t.Errorf("a twin shares memory: %v, %v; want %v", table, again, held)
		}
	}
}

// P3.4: nor do cells share memory, with a table or with each other.
func TestCellsAreNew(t *testing.T) {
	for _, table := range well() {
		held := copied(table)
		for k := range table {
			first, _ := types.Cells(table, k)
			second, _ := types.Cells(table, k)
			want := slices.Clone(second)
			for i := range first[:cap(first)] {
				first[:cap(first)][i] = -9
			}
			third, _ := types.Cells(table, k)
			if !types.Same(table, held) || !slices.Equal(second, want) || !slices.Equal(third, want) {
				t.Fatalf("the cells of %d of %v share memory", k, table)
			}
		}
	}
}

// laws holds P3.5 of a type: from Offset on a part's own cells stand, the next part's behind them, up to the end; each cell is a scalar.
func laws(t *testing.T, table []api.Type, k int) {
	t.Helper()
	l, _ := types.Cells(table, k)
	for _, c := range l {
		if is, e := types.Scalar(table, c); !is || e != api.OK {
			t.Fatalf("a cell of %d of %v is %d, no scalar", k, table, c)
		}
	}
	if len(l) < 1 || len(l) > 32 {
		t.Fatalf("%d of %v has %d cells", k, table, len(l))
	}
	next, parts := 0, 0
	for n := 0; ; n++ {
		p, e := types.Part(table, k, n)
		at, f := types.Offset(table, k, n)
		if e != f {
			t.Fatalf("Part and Offset of %d of %v, %d: %d and %d", k, table, n, e, f)
		}
		if e != api.OK {
			break
		}
		own, _ := types.Cells(table, p)
		if at != next || at+len(own) > len(l) || !slices.Equal(l[at:at+len(own)], own) {
			t.Fatalf("part %d of %d of %v, %v, is not at %d of %v", n, k, table, own, at, l)
		}
		next, parts = at+len(own), n+1
	}
	is, _ := types.Scalar(table, k)
	if is != (parts == 0) || is && (len(l) != 1 || l[0] != k) || !is && next != len(l) {
		t.Fatalf("%d of %v has %d parts, %d of its cells %v in them", k, table, parts, next, l)
	}
}

// P3.5: what follows of the document's words, of tables of all sorts.
func TestPartsStandAmongCells(t *testing.T) {
	for _, table := range well() {
		for k := range table {
			laws(t, table, k)
		}
	}
	for _, table := range mixed() {
		if asked(table) == api.OK {
			for k := range table {
				laws(t, table, k)
			}
		}
	}
}

// P1: a call answers the same again, whatever was asked between.
func TestAgain(t *testing.T) {
	table := example()
	for range 3 {
		for _, other := range broken() {
			types.Check(other)
			types.Cells(other, 0)
		}
		types.Offset(wide(), 2, 1)
		l, e := types.Cells(table, 3)
		at, f := types.Offset(table, 3, 1)
		if !slices.Equal(l, []int{0, 1, 0, 1}) || at != 2 || e != api.OK || f != api.OK {
			t.Fatalf("Cells and Offset: %v, %d; %d, %d", l, e, at, f)
		}
	}
}
