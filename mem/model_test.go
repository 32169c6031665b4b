package mem_test

import (
	"reflect"
	"testing"

	"fescue/api"
	"fescue/mem"
)

// chance is numbers that look mixed, and are the same in each run.
type chance uint64

func (c *chance) below(n int) int {
	*c = *c*6364136223846793005 + 1442695040888963407
	return int(uint64(*c) >> 33 % uint64(n))
}

// kept is a memory by the chapter's words: what each pointer's cell has, and what is known of each block.
type kept struct {
	cells map[api.Val]api.Val
	depth map[int]int
	alive map[int]bool
}

func remember(m []api.Blk) kept {
	k := kept{map[api.Val]api.Val{}, map[int]int{}, map[int]bool{}}
	for n, b := range m {
		k.depth[n+1], k.alive[n+1] = b.Depth, b.Alive
		for at, v := range b.Cells {
			k.cells[pointer(n+1, at)] = v
		}
	}
	return k
}

// one tells whether v is a value of the memory.
func (k kept) one(v api.Val) bool {
	_, there := k.cells[v]
	isFunction := v.Kind == api.ValFn && v.N >= 0 && v.N <= 8 && v == function(v.N)
	return there || v == null() || v == number(v.N) || isFunction
}

// maybe tells whether a memory may be.
func (k kept) maybe(m []api.Blk) bool {
	for _, b := range m {
		if b.Site < 0 || b.Type < 0 || b.Depth < 0 || len(b.Cells) == 0 || len(b.Cells) > 32 {
			return false
		}
		for _, v := range b.Cells {
			if !k.one(v) {
				return false
			}
		}
	}
	return len(m) <= 4096
}

// pointed answers the error of a pointer.
func (k kept) pointed(p api.Val) api.Errno {
	switch {
	case p == null():
		return api.TrapNull
	case p.Kind != api.ValPtr || !k.one(p):
		return api.ErrArg
	}
	return api.OK
}

func (k kept) load(p api.Val) (api.Val, api.Errno) {
	if e := k.pointed(p); e != api.OK {
		return api.Val{}, e
	}
	if !k.alive[p.Block] {
		return api.Val{}, api.TrapFreed
	}
	return k.cells[p], api.OK
}

func (k kept) store(p, v api.Val) api.Errno {
	e := k.pointed(p)
	switch {
	case e == api.ErrArg, !k.one(v):
		return api.ErrArg
	case e == api.TrapNull:
		return e
	case k.cells[p].Kind != v.Kind:
		return api.ErrArg
	case !k.alive[p.Block]:
		return api.TrapFreed
	case k.depth[v.Block] > k.depth[p.Block]:
		return api.TrapLife
	}
	return api.OK
}

func (k kept) free(p api.Val) api.Errno {
	e := k.pointed(p)
	switch {
	case e != api.OK:
		return e
	case k.depth[p.Block] != 0 || p != pointer(p.Block, 0):
		return api.TrapFree
	case !k.alive[p.Block]:
		return api.TrapFreed
	}
	return api.OK
}

func (k kept) holds() bool {
	for p, v := range k.cells {
		if k.alive[p.Block] && k.depth[v.Block] > k.depth[p.Block] {
			return false
		}
	}
	return true
}

// value is one that may or may not be of a small memory.
func (c *chance) value() api.Val {
	switch c.below(9) {
	case 0, 1:
		return number(int64(c.below(5) - 2))
	case 2:
		return function(int64(c.below(9)))
	case 3:
		return null()
	case 4:
		v := api.Val{Kind: uint8(c.below(5)), N: int64(c.below(3)), Block: c.below(3), At: c.below(3)}
		return v
	}
	return pointer(c.below(5)+1, c.below(3))
}

// memory is a small one, most often one that may be.
func (c *chance) memory() []api.Blk {
	m := make([]api.Blk, c.below(6))
	for k := range m {
		m[k] = api.Blk{Site: c.below(3), Type: c.below(3), Depth: c.below(4), Alive: c.below(4) > 0}
		m[k].Cells = make([]api.Val, c.below(3)+1)
	}
	for k := range m {
		for at := range m[k].Cells {
			v := c.value()
			for c.below(40) > 0 && !remember(m).one(v) {
				v = c.value()
			}
			m[k].Cells[at] = v
		}
	}
	if len(m) > 0 && c.below(20) == 0 {
		b := &m[c.below(len(m))]
		switch c.below(4) {
		case 0:
			b.Site = -1
		case 1:
			b.Type = -1
		case 2:
			b.Depth = -1
		case 3:
			b.Cells = nil
		}
	}
	return m
}

// P14.1 to P14.4: mixed memories, whole, by the chapter's words.
func TestMixed(t *testing.T) {
	c := chance(1)
	well := 0
	for range 4000 {
		m := c.memory()
		k := remember(m)
		if !k.maybe(m) {
			mustCheck(t, m, api.ErrBad)
			mustHold(t, m, false, api.ErrBad)
			mustLoad(t, m, c.value(), api.Val{}, api.ErrBad)
			mustStore(t, m, c.value(), c.value(), nil, api.ErrBad)
			continue
		}
		well++
		mustCheck(t, m, api.OK)
		mustHold(t, m, k.holds(), api.OK)
		for depth := range 5 {
			popped(t, m, depth)
		}
		for range 30 {
			askAt(t, m, k, c.value(), c.value(), c.below(7)-3)
		}
	}
	if well < 2000 {
		t.Errorf("only %d memories may be", well)
	}
}

// askAt asks all that is asked of a pointer.
func askAt(t *testing.T, m []api.Blk, k kept, p, v api.Val, by int) {
	t.Helper()
	want, e := k.load(p)
	mustLoad(t, m, p, want, e)
	var now []api.Blk
	if e = k.store(p, v); e == api.OK {
		now = with(m, p.Block, p.At, v)
	}
	mustStore(t, m, p, v, now, e)
	now = nil
	if e = k.free(p); e == api.OK {
		now = without(m, p.Block)
	}
	mustFree(t, m, p, now, e)
	to := pointer(p.Block, p.At+by)
	if e = k.pointed(p); e == api.OK && !k.one(to) {
		e = api.ErrArg
	}
	if e != api.OK {
		to = api.Val{}
	}
	mustMove(t, m, p, by, to, e)
	if k.one(v) {
		mustDepth(t, m, v, k.depth[v.Block], api.OK)
	} else {
		mustDepth(t, m, v, 0, api.ErrArg)
	}
}

// popped asks for a Pop.
func popped(t *testing.T, m []api.Blk, depth int) {
	t.Helper()
	if depth == 0 {
		mustPop(t, m, depth, nil, api.ErrArg)
		return
	}
	want := deep(m)
	for k := range want {
		if want[k].Depth >= depth {
			want[k].Alive = false
		}
	}
	mustPop(t, m, depth, want, api.OK)
}

// P14.6: behind any calls what is stored is loaded, no other cell is turned, and life holds.
func TestFollows(t *testing.T) {
	c := chance(2)
	for range 150 {
		var m []api.Blk
		for range 80 {
			k := remember(m)
			switch c.below(8) {
			case 0, 1:
				m = made(t, m, k, &c)
			case 2:
				m = gone(t, m, k, &c)
			case 3:
				m = freed(t, m, k, c.pointer(m))
			default:
				m = stored(t, m, k, c.pointer(m), c.fitting(m))
			}
			mustCheck(t, m, api.OK)
			mustHold(t, m, true, api.OK)
			if !remember(m).holds() {
				t.Fatalf("life does not hold: %+v", m)
			}
		}
	}
}

// pointer is one of a memory, mostly.
func (c *chance) pointer(m []api.Blk) api.Val {
	if len(m) == 0 || c.below(20) == 0 {
		return null()
	}
	k := c.below(len(m))
	return pointer(k+1, c.below(len(m[k].Cells)))
}

// fitting is a value of a memory.
func (c *chance) fitting(m []api.Blk) api.Val {
	switch c.below(5) {
	case 0:
		return number(int64(c.below(100)))
	case 1:
		return function(int64(c.below(9)))
	}
	return c.pointer(m)
}

// made is the memory behind a New: what was there is there yet.
func made(t *testing.T, m []api.Blk, k kept, c *chance) []api.Blk {
	t.Helper()
	cells := make([]uint8, c.below(4)+1)
	for at := range cells {
		cells[at] = uint8(c.below(3)) + api.KInt
	}
	depth := c.below(4)
	now, p, e := mem.New(m, 1, 2, depth, cells)
	if e != api.OK || p != pointer(len(m)+1, 0) {
		t.Fatalf("New tells %+v, %d", p, e)
	}
	k.depth[p.Block], k.alive[p.Block] = depth, true
	for at, kind := range cells {
		k.cells[pointer(p.Block, at)] = api.Val{Kind: kind}
	}
	mustBe(t, now, k)
	return now
}

// gone is the memory behind a Pop: no cell of a block that is Alive points to what is over by it.
func gone(t *testing.T, m []api.Blk, k kept, c *chance) []api.Blk {
	t.Helper()
	depth := c.below(3) + 1
	now, e := mem.Pop(m, depth)
	if e != api.OK {
		t.Fatalf("Pop tells %d", e)
	}
	for n := range k.alive {
		k.alive[n] = k.alive[n] && k.depth[n] < depth
	}
	mustBe(t, now, k)
	for _, b := range now {
		for _, v := range b.Cells {
			if n, _ := mem.Depth(now, v); b.Alive && n >= depth {
				t.Errorf("%+v points to what is over, of depth %d", b, n)
			}
		}
	}
	return now
}

// freed is the memory behind a Free.
func freed(t *testing.T, m []api.Blk, k kept, p api.Val) []api.Blk {
	t.Helper()
	now, e := mem.Free(m, p)
	if want := k.free(p); e != want {
		t.Fatalf("Free(%+v, %+v) tells %d, want %d", m, p, e, want)
	}
	if e != api.OK {
		return m
	}
	k.alive[p.Block] = false
	mustBe(t, now, k)
	return now
}

// stored is the memory behind a Store: what is stored is loaded, and no other cell is turned.
func stored(t *testing.T, m []api.Blk, k kept, p, v api.Val) []api.Blk {
	t.Helper()
	now, e := mem.Store(m, p, v)
	if want := k.store(p, v); e != want {
		t.Fatalf("Store(%+v, %+v, %+v) tells %d, want %d", m, p, v, e, want)
	}
	if e != api.OK {
		return m
	}
	mustLoad(t, now, p, v, api.OK)
	k.cells[p] = v
	mustBe(t, now, k)
	return now
}

// mustBe holds a memory against what is known of it.
func mustBe(t *testing.T, m []api.Blk, want kept) {
	t.Helper()
	if !reflect.DeepEqual(remember(m), want) {
		t.Errorf("the memory is %+v, want %+v", m, want)
	}
}
