package flat_test

import (
	"math"
	"slices"
	"testing"

	"fescue/api"
	"fescue/flat"
	"fescue/types"
)

const (
	least = math.MinInt
	most  = math.MaxInt
)

func integer() api.Type               { return api.Type{Kind: api.KInt} }
func pointer(to int) api.Type         { return api.Type{Kind: api.KPtr, Elem: to} }
func structure(parts ...int) api.Type { return api.Type{Kind: api.KStruct, Parts: parts} }
func array(of, many int) api.Type     { return api.Type{Kind: api.KArray, Elem: of, Many: many} }
func function(answer int, parameters ...int) api.Type {
	return api.Type{Kind: api.KFn, Elem: answer, Parts: parameters}
}

// example answers the document's table.
func example() []api.Type {
	return []api.Type{integer(), pointer(2), structure(0, 1), array(2, 2), structure(3, 0)}
}

// many answers a table of that many types, each an integer.
func many(n int) []api.Type {
	return slices.Repeat([]api.Type{integer()}, n)
}

// copied answers t in new memory, type by type and number by number.
func copied(t []api.Type) []api.Type {
	c := make([]api.Type, len(t))
	for k, y := range t {
		c[k] = api.Type{Kind: y.Kind, Elem: y.Elem, Many: y.Many, Parts: append(make([]int, 0, len(y.Parts)), y.Parts...)}
	}
	return c
}

// fieldsOf tells by the document's words the flat fields of the type k of a table that may be.
func fieldsOf(t []api.Type, k int) []int {
	switch t[k].Kind {
	case 4:
		var l []int
		for _, p := range t[k].Parts {
			l = append(l, fieldsOf(t, p)...)
		}
		return l
	case 5:
		return fieldsOf(t, t[k].Elem)
	}
	return []int{k}
}

// flatsOf tells by the document's words the flat field of each cell of the type k of a table that may be.
func flatsOf(t []api.Type, k int) []int {
	var l []int
	switch t[k].Kind {
	case 4:
		for n, p := range t[k].Parts {
			for _, own := range flatsOf(t, p) {
				l = append(l, stepOf(t, k, n)+own)
			}
		}
	case 5:
		for range t[k].Many {
			l = append(l, flatsOf(t, t[k].Elem)...)
		}
	default:
		l = append(l, 0)
	}
	return l
}

// stepOf tells by the document's words the step to the part n of a type that has one.
func stepOf(t []api.Type, k, n int) int {
	ahead := 0
	if t[k].Kind == 4 {
		for _, p := range t[k].Parts[:n] {
			ahead += len(fieldsOf(t, p))
		}
	}
	return ahead
}

// partsOf tells how many parts the type k has.
func partsOf(t []api.Type, k int) int {
	switch t[k].Kind {
	case 4:
		return len(t[k].Parts)
	case 5:
		return t[k].Many
	}
	return 0
}

// well answers tables that may be, with the edges that the document names.
func well() map[string][]api.Type {
	return map[string][]api.Type{
		"nil": nil, "no type": {}, "one type": many(1), "16 types": many(16), "the example": example(),
		"a pointer to itself":               {pointer(0)},
		"a pointer to a higher one":         {pointer(1), structure(0)},
		"a function of 4":                   {integer(), pointer(0), function(1, 0, 1, 2, 0), structure(2, 2), array(2, 3)},
		"a struct of 1":                     {integer(), structure(0)},
		"a struct of 8":                     {integer(), structure(0, 0, 0, 0, 0, 0, 0, 0)},
		"a struct of a struct":              {integer(), pointer(0), structure(0, 1), structure(1, 2, 0), structure(3, 2, 3)},
		"an array of 1":                     {integer(), array(0, 1)},
		"an array of 16":                    {integer(), array(0, 16)},
		"an array of structs":               {integer(), pointer(0), structure(1, 0, 1), array(2, 5)},
		"an array of 1 struct":              {integer(), pointer(0), structure(1, 0, 1), array(2, 1)},
		"a struct of arrays":                {integer(), pointer(0), array(0, 3), array(1, 4), structure(2, 3, 2, 0)},
		"an array in an array":              {integer(), array(0, 2), array(1, 3), array(2, 4)},
		"an array in an array of structs":   {integer(), pointer(0), structure(0, 1), array(2, 2), array(3, 3), array(4, 2)},
		"arrays and structs by turns":       {integer(), pointer(0), array(0, 2), structure(2, 1), array(3, 2), structure(1, 4, 0), array(5, 2), structure(6, 0, 5)},
		"32 cells, of arrays":               {integer(), array(0, 16), array(1, 2)},
		"32 cells, 16 times":                {integer(), structure(0, 0), array(1, 16)},
		"32 cells, of a struct":             {integer(), array(0, 4), structure(1, 1, 1, 1, 1, 1, 1, 1)},
		"32 cells, no array":                {integer(), pointer(0), structure(0, 1), structure(2, 2), structure(3, 3, 3, 3, 3, 3, 3, 3)},
		"32 cells, in many structs":         {integer(), structure(0, 0), structure(1, 1), structure(2, 2), structure(3, 3), structure(4, 4)},
		"32 cells, in many arrays":          {integer(), array(0, 2), array(1, 2), array(2, 2), array(3, 2), array(4, 2)},
		"one in the other, 15 times":        nested(),
		"each of 32 cells":                  wide(),
		"a struct of the kinds":             {integer(), pointer(3), function(1, 0), structure(0, 1, 2), array(3, 10)},
		"arrays ahead, between and behind":  {integer(), pointer(1), array(0, 5), array(1, 1), structure(2, 0, 2, 1, 3)},
		"an array of a struct of one array": {integer(), array(0, 3), structure(1), array(2, 4), structure(3)},
	}
}

// nested answers a table of 16 types, each but the first with the one ahead as its only part.
func nested() []api.Type {
	t := []api.Type{pointer(15)}
	for k := range 15 {
		t = append(t, []api.Type{structure(k), array(k, 1)}[k%2])
	}
	return t
}

// wide answers a table of 16 types, the most of which have 32 cells.
func wide() []api.Type {
	t := []api.Type{integer(), structure(0, 0, 0, 0), array(1, 8)}
	for k := 2; len(t) < 16; k++ {
		t = append(t, structure(k))
	}
	return t
}

// broken answers tables of at most 16 types that may not be.
func broken() map[string][]api.Type {
	return map[string][]api.Type{
		"a struct of itself":         {structure(0)},
		"an array of itself":         {array(0, 1)},
		"a pointer to no type":       {pointer(1)},
		"a struct of a higher one":   {integer(), structure(0, 2), integer()},
		"two structs of each other":  {structure(1), structure(0)},
		"two arrays of each other":   {array(1, 2), array(0, 2)},
		"a struct of no type":        {integer(), structure(0, 2)},
		"a struct of one below":      {integer(), structure(0, -1)},
		"a struct of one far out":    {integer(), structure(most, least)},
		"a struct of nothing":        {integer(), structure()},
		"a struct of 9":              {integer(), structure(make([]int, 9)...)},
		"a struct of many":           {integer(), structure(make([]int, 100_000)...)},
		"an array of no type":        {integer(), array(2, 1)},
		"an array of one below":      {integer(), array(-1, 1)},
		"an array of 0":              {integer(), array(0, 0)},
		"an array of 17":             {integer(), array(0, 17)},
		"an array of -1":             {integer(), array(0, -1)},
		"an array far too long":      {integer(), array(0, most)},
		"a function of 5":            {integer(), function(0, 0, 0, 0, 0, 0)},
		"a function of a struct":     {integer(), structure(0), function(0, 1)},
		"33 cells, one flat field":   {integer(), array(0, 11), array(1, 3)},
		"33 cells, no array":         {integer(), structure(0, 0, 0, 0, 0, 0, 0, 0), structure(1, 1, 1, 1, 0)},
		"512 cells, one flat field":  {integer(), array(0, 16), array(1, 2), array(2, 16)},
		"kind 0":                     {{}},
		"kind 6":                     {{Kind: 6}},
		"kind 0 behind":              {integer(), pointer(0), {}},
		"kind 0 ahead":               {{}, integer()},
		"an int of Parts":            {integer(), {Kind: api.KInt, Parts: []int{0}}},
		"the last of 16 is none":     append(many(15), structure(15)),
		"one may not be, the others": append(example(), array(5, 2)),
	}
}

// mixed answers tables by the thousand that come out alike each time, with those alone that may be.
func mixed() [][]api.Type {
	state := uint64(4)
	next := func(below int) int {
		state = state*6364136223846793005 + 1442695040888963407
		return int((state >> 33) % uint64(below))
	}
	list := func(size, below int) []int {
		var l []int
		for range size {
			l = append(l, next(below))
		}
		return l
	}
	var all [][]api.Type
	for size := 1; size <= 16; size++ {
		for range 100 {
			t := []api.Type{integer()}
			for k := 1; k < size; k++ {
				t = append(t, []api.Type{
					pointer(next(size)), function(0, list(next(5), 1)...), structure(list(1+next(3), k)...),
					structure(list(1+next(8), min(k, 3))...), array(next(k), next(4)+1), array(next(k), 1+next(16)),
				}[next(6)])
				for types.Check(append(slices.Clone(t), many(size-len(t))...)) != api.OK {
					t[k] = integer()
				}
			}
			all = append(all, t)
		}
	}
	return all
}

// all answers each table that may be, of both sorts.
func all() [][]api.Type {
	tables := mixed()
	for _, t := range well() {
		tables = append(tables, t)
	}
	return tables
}

// mustHave holds all that is answered of the type k against the document's words.
func mustHave(t *testing.T, table []api.Type, k int) {
	t.Helper()
	if l, e := flat.Fields(table, k); e != api.OK || !slices.Equal(l, fieldsOf(table, k)) {
		t.Fatalf("Fields(%v, %d) = %v, %d; want %v, OK", table, k, l, e, fieldsOf(table, k))
	}
	for cell, want := range flatsOf(table, k) {
		if field, e := flat.Flat(table, k, cell); field != want || e != api.OK {
			t.Fatalf("Flat(%v, %d, %d) = %d, %d; want %d, OK", table, k, cell, field, e, want)
		}
	}
	for n := range partsOf(table, k) {
		if step, e := flat.Step(table, k, n); step != stepOf(table, k, n) || e != api.OK {
			t.Fatalf("Step(%v, %d, %d) = %d, %d; want %d, OK", table, k, n, step, e, stepOf(table, k, n))
		}
	}
}

// mustRefuse holds what all calls answer of a table, a type and a number: one error of them, and zero values beside it.
func mustRefuse(t *testing.T, table []api.Type, k, n int, want api.Errno) {
	t.Helper()
	if l, e := flat.Fields(table, k); len(l) != 0 || e != want {
		t.Fatalf("Fields(%v, %d) = %v, %d; want nothing, %d", table, k, l, e, want)
	}
	mustRefuseCell(t, table, k, n, want)
	mustRefusePart(t, table, k, n, want)
}

func mustRefuseCell(t *testing.T, table []api.Type, k, cell int, want api.Errno) {
	t.Helper()
	if field, e := flat.Flat(table, k, cell); field != 0 || e != want {
		t.Fatalf("Flat(%v, %d, %d) = %d, %d; want 0, %d", table, k, cell, field, e, want)
	}
}

func mustRefusePart(t *testing.T, table []api.Type, k, n int, want api.Errno) {
	t.Helper()
	if step, e := flat.Step(table, k, n); step != 0 || e != want {
		t.Fatalf("Step(%v, %d, %d) = %d, %d; want 0, %d", table, k, n, step, e, want)
	}
}

// P4.1: what is written out by hand, at the edges that the document names.
func TestByHand(t *testing.T) {
	kinds := []api.Type{integer(), pointer(6), function(0, 0), array(1, 3), structure(2, 3, 0), array(4, 2), structure(5, 1, 4)}
	for name, c := range map[string]struct {
		table                []api.Type
		k                    int
		fields, flats, steps []int
	}{
		"the example":          {example(), 3, []int{0, 1}, []int{0, 1, 0, 1}, []int{0, 0}},
		"the second example":   {example(), 4, []int{0, 1, 0}, []int{0, 1, 0, 1, 2}, []int{0, 2}},
		"its struct":           {example(), 2, []int{0, 1}, []int{0, 1}, []int{0, 1}},
		"a scalar":             {example(), 1, []int{1}, []int{0}, nil},
		"an integer":           {kinds, 0, []int{0}, []int{0}, nil},
		"a pointer":            {kinds, 1, []int{1}, []int{0}, nil},
		"a function":           {kinds, 2, []int{2}, []int{0}, nil},
		"an array of scalars":  {kinds, 3, []int{1}, []int{0, 0, 0}, []int{0, 0, 0}},
		"a struct of an array": {kinds, 4, []int{2, 1, 0}, []int{0, 1, 1, 1, 2}, []int{0, 1, 2}},
		"an array of that":     {kinds, 5, []int{2, 1, 0}, []int{0, 1, 1, 1, 2, 0, 1, 1, 1, 2}, []int{0, 0}},
		"a struct of both":     {kinds, 6, []int{2, 1, 0, 1, 2, 1, 0}, []int{0, 1, 1, 1, 2, 0, 1, 1, 1, 2, 3, 4, 5, 5, 5, 6}, []int{0, 3, 4}},
		"a struct of 1":        {[]api.Type{integer(), structure(0)}, 1, []int{0}, []int{0}, []int{0}},
		"a struct of 1 array":  {[]api.Type{integer(), array(0, 3), structure(1)}, 2, []int{0}, []int{0, 0, 0}, []int{0}},
		"a struct of 8":        {[]api.Type{integer(), structure(make([]int, 8)...)}, 1, make([]int, 8), []int{0, 1, 2, 3, 4, 5, 6, 7}, []int{0, 1, 2, 3, 4, 5, 6, 7}},
		"an array of 1":        {[]api.Type{pointer(0), array(0, 1)}, 1, []int{0}, []int{0}, []int{0}},
		"an array of 16":       {[]api.Type{integer(), array(0, 16)}, 1, []int{0}, make([]int, 16), make([]int, 16)},
		"arrays in arrays":     {[]api.Type{integer(), array(0, 16), array(1, 2)}, 2, []int{0}, make([]int, 32), []int{0, 0}},
		"structs in structs":   {[]api.Type{integer(), pointer(0), structure(1, 0), structure(2, 1, 2)}, 3, []int{1, 0, 1, 1, 0}, []int{0, 1, 2, 3, 4}, []int{0, 2, 3}},
		"a struct of arrays":   {[]api.Type{integer(), pointer(0), array(1, 2), array(0, 3), structure(2, 3, 2)}, 4, []int{1, 0, 1}, []int{0, 0, 1, 1, 1, 2, 2}, []int{0, 1, 2}},
		"one in the other":     {nested(), 15, []int{0}, []int{0}, []int{0}},
	} {
		if l, e := flat.Fields(c.table, c.k); e != api.OK || !slices.Equal(l, c.fields) {
			t.Errorf("Fields of %s: %v, %d; want %v, OK", name, l, e, c.fields)
		}
		for cell, want := range c.flats {
			if field, e := flat.Flat(c.table, c.k, cell); field != want || e != api.OK {
				t.Errorf("Flat of %s, %d: %d, %d; want %d, OK", name, cell, field, e, want)
			}
		}
		for n, want := range c.steps {
			if step, e := flat.Step(c.table, c.k, n); step != want || e != api.OK {
				t.Errorf("Step of %s, %d: %d, %d; want %d, OK", name, n, step, e, want)
			}
		}
		for _, far := range []int{-1, -2, -32, least} {
			mustRefuseCell(t, c.table, c.k, far, api.ErrArg)
			mustRefusePart(t, c.table, c.k, far, api.ErrArg)
		}
		for _, far := range []int{0, 1, 2, 31, math.MaxInt32} {
			mustRefuseCell(t, c.table, c.k, len(c.flats)+far, api.ErrArg)
			mustRefusePart(t, c.table, c.k, len(c.steps)+far, api.ErrArg)
		}
		mustRefuseCell(t, c.table, c.k, most, api.ErrArg)
		mustRefusePart(t, c.table, c.k, most, api.ErrArg)
	}
}

// P4.1: tables of all sorts, as the document's words have them.
func TestByWords(t *testing.T) {
	for _, table := range all() {
		for k := range table {
			mustHave(t, table, k)
		}
	}
}

// P4.1: the cell and the part behind the last one are refused, and those ahead of the first.
func TestNoCellNoPart(t *testing.T) {
	for _, table := range all() {
		for k := range table {
			for _, far := range []int{-1, least} {
				mustRefuseCell(t, table, k, far, api.ErrArg)
				mustRefusePart(t, table, k, far, api.ErrArg)
			}
			for _, far := range []int{0, 1, 1000} {
				mustRefuseCell(t, table, k, len(flatsOf(table, k))+far, api.ErrArg)
				mustRefusePart(t, table, k, partsOf(table, k)+far, api.ErrArg)
			}
		}
	}
}

// P4.1: no scalar has a part, a function of parameters as little as others.
func TestStepOfScalar(t *testing.T) {
	table := []api.Type{integer(), pointer(4), function(0, 0, 1, 0, 1), function(1), structure(0, 1), pointer(4)}
	for _, k := range []int{0, 1, 2, 3, 5} {
		for _, n := range []int{0, 1, 2, 3, 4, -1, least, most} {
			mustRefusePart(t, table, k, n, api.ErrArg)
		}
	}
}

// P4.1: Check's errors are told ahead of all others, the greater table's ahead of the one that may not be.
func TestCheckFirst(t *testing.T) {
	for _, k := range []int{0, 1, 2, 15, 16, 17, -1, least, most} {
		for _, n := range []int{0, 1, 32, -1, least, most} {
			for _, table := range broken() {
				mustRefuse(t, table, k, n, api.ErrType)
			}
			mustRefuse(t, many(17), k, n, api.ErrMany)
			mustRefuse(t, make([]api.Type, 18), k, n, api.ErrMany)
			mustRefuse(t, append(many(17), structure(17)), k, n, api.ErrMany)
		}
	}
	mustRefuse(t, many(100_000), 0, 0, api.ErrMany)
}

// P4.1: what is no type's number is refused.
func TestNoType(t *testing.T) {
	for _, table := range well() {
		for _, k := range []int{-1, -2, -16, least, len(table), len(table) + 1, 16, 17, math.MaxInt32, most} {
			for _, n := range []int{0, 1, -1, most} {
				mustRefuse(t, table, k, n, api.ErrArg)
			}
		}
	}
}

// roomy answers l with room behind it, that holds what nobody may touch.
func roomy[T any](l []T, mark T) (own, whole []T) {
	whole = slices.Concat(l, slices.Repeat([]T{mark}, 8))
	return whole[:len(l)], whole
}

// same tells of two tables whether they have just the same, their lists' room behind their ends included.
func same(a, b []api.Type) bool {
	return slices.EqualFunc(a, b, func(x, y api.Type) bool {
		return x.Kind == y.Kind && x.Elem == y.Elem && x.Many == y.Many && slices.Equal(x.Parts[:cap(x.Parts)], y.Parts[:cap(y.Parts)])
	})
}

// P4.2: what is handed in is only read, also behind its end.
func TestOnlyRead(t *testing.T) {
	tables := [][]api.Type{many(17)}
	for _, table := range well() {
		tables = append(tables, table)
	}
	for _, table := range broken() {
		tables = append(tables, table)
	}
	for _, table := range tables {
		own, whole := roomy(table, api.Type{Kind: 99, Elem: -7, Many: -7})
		held := slices.Clone(whole)
		for k := range own {
			_, parts := roomy(own[k].Parts, -7)
			own[k].Parts = parts[: len(parts)-8 : len(parts)]
			held[k] = own[k]
			held[k].Parts = slices.Clip(slices.Clone(parts))[: len(parts)-8 : len(parts)]
		}
		for k := -1; k <= min(len(own), 17); k++ {
			flat.Fields(own, k)
			for n := -1; n <= 33; n++ {
				flat.Flat(own, k, n)
				flat.Step(own, k, n)
			}
		}
		if !same(whole, held) {
			t.Errorf("what was handed in, %v, is %v", held, whole)
		}
	}
}

// P4.2: flat fields share no memory, with a table or with each other.
func TestFieldsAreNew(t *testing.T) {
	for _, table := range well() {
		held := copied(table)
		for k := range table {
			first, _ := flat.Fields(table, k)
			second, _ := flat.Fields(table, k)
			want := slices.Clone(second)
			for i := range first[:cap(first)] {
				first[:cap(first)][i] = -9
			}
			third, _ := flat.Fields(table, k)
			if !types.Same(table, held) || !slices.Equal(second, want) || !slices.Equal(third, want) {
				t.Fatalf("the flat fields of %d of %v share memory", k, table)
			}
		}
	}
}

// flatsAnswered answers the flat field of each cell of the type k, as Flat has it.
func flatsAnswered(t *testing.T, table []api.Type, k int) []int {
	t.Helper()
	var l []int
	for cell := range api.MaxCells + 1 {
		field, e := flat.Flat(table, k, cell)
		if e != api.OK {
			break
		}
		l = append(l, field)
	}
	return l
}

// P4.3: the flat field of a cell is a scalar of the cell's own type, and no flat field is without a cell.
func TestFieldsOfCells(t *testing.T) {
	for _, table := range all() {
		for k := range table {
			cells, _ := types.Cells(table, k)
			fields, _ := flat.Fields(table, k)
			flats := flatsAnswered(t, table, k)
			if len(flats) != len(cells) {
				t.Fatalf("%d of %v has %d cells, %d of them with a flat field", k, table, len(cells), len(flats))
			}
			for cell, field := range flats {
				if field < 0 || field >= len(fields) || fields[field] != cells[cell] {
					t.Fatalf("the cell %d of %d of %v, a %d, is the flat field %d of %v", cell, k, table, cells[cell], field, fields)
				}
				if is, e := types.Scalar(table, fields[field]); !is || e != api.OK {
					t.Fatalf("the flat field %d of %d of %v is no scalar", field, k, table)
				}
			}
			slices.Sort(flats)
			if len(slices.Compact(flats)) != len(fields) {
				t.Fatalf("a flat field of %d of %v is without a cell", k, table)
			}
		}
	}
}

// P4.3: the flat field of a part's cell is the step to the part, and the cell's own one in it.
func TestFieldsOfParts(t *testing.T) {
	for _, table := range all() {
		for k := range table {
			flats := flatsAnswered(t, table, k)
			for n := 0; ; n++ {
				step, e := flat.Step(table, k, n)
				p, f := types.Part(table, k, n)
				if e != f {
					t.Fatalf("Step and Part of %d of %v, %d: %d and %d", k, table, n, e, f)
				}
				if e != api.OK {
					break
				}
				at, _ := types.Offset(table, k, n)
				for cell, own := range flatsAnswered(t, table, p) {
					if flats[at+cell] != step+own {
						t.Fatalf("the cell %d of part %d of %d of %v is the flat field %d; want %d and %d", cell, n, k, table, flats[at+cell], step, own)
					}
				}
			}
		}
	}
}

// P4.3: without arrays flat fields are cells.
func TestWithoutArrays(t *testing.T) {
	met := 0
	for _, table := range all() {
		if slices.ContainsFunc(table, func(y api.Type) bool { return y.Kind == api.KArray }) {
			continue
		}
		for k := range table {
			cells, _ := types.Cells(table, k)
			fields, _ := flat.Fields(table, k)
			if !slices.Equal(fields, cells) {
				t.Fatalf("%d of %v has the flat fields %v, the cells %v", k, table, fields, cells)
			}
			for cell, field := range flatsAnswered(t, table, k) {
				if field != cell {
					t.Fatalf("the cell %d of %d of %v is the flat field %d", cell, k, table, field)
				}
			}
			for n := range partsOf(table, k) {
				step, _ := flat.Step(table, k, n)
				if at, _ := types.Offset(table, k, n); step != at {
					t.Fatalf("the step to part %d of %d of %v is %d; want %d", n, k, table, step, at)
				}
			}
		}
		met++
	}
	if met < 50 {
		t.Errorf("only %d tables without arrays", met)
	}
}

// P1: a call answers the same again, whatever was asked between.
func TestAgain(t *testing.T) {
	table := example()
	for range 3 {
		for _, other := range broken() {
			flat.Fields(other, 0)
			flat.Flat(other, 0, 0)
			flat.Step(other, 0, 0)
		}
		flat.Flat(wide(), 15, 31)
		l, e := flat.Fields(table, 4)
		field, f := flat.Flat(table, 4, 3)
		step, g := flat.Step(table, 4, 1)
		if !slices.Equal(l, []int{0, 1, 0}) || field != 1 || step != 2 || e != api.OK || f != api.OK || g != api.OK {
			t.Fatalf("Fields, Flat and Step: %v, %d, %d; %d, %d, %d", l, field, step, e, f, g)
		}
	}
}
