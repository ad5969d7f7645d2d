package fds

import (
	"maps"
	"math"
	"slices"
	"testing"

	"estray/api"
)

const (
	last = api.MaxGen
	end  = uint64(last)
)

var (
	// sizes are the least and the greatest ones, and some between.
	sizes = []int{1, 2, 3, 32, 63, 64}
	// noSizes are none; some would be sizes in fewer bits, and some are those of tables of slots.
	noSizes = []int{math.MinInt, -1<<32 + 1, -64, -2, -1, 0, 65, 66, 128, 255, 256, 257, 1<<32 + 1, 1<<32 + 64, math.MaxInt}
	// firsts are the first generations, the last ones, and some between.
	firsts = []uint32{1, 2, 7, 1 << 31, last - 2, last - 1, last}
	// someNumbers are the least and the greatest ones, and some between.
	someNumbers = []int{0, 1, 2, 255, 256, 32_767, 32_768, 65_534, 65_535}
	// noNumbers are none; some would be numbers in fewer bits.
	noNumbers = []int{math.MinInt, -1<<32 + 5, -65_536, -65_535, -2, -1, 65_536, 65_537, 1 << 20, 1 << 31, 1 << 32, 1<<32 + 5, math.MaxInt}
	// otherIds are ids that are not possible.
	otherIds = []int{math.MinInt, -1 << 32, -64, -2, -1, 64, 65, 255, 256, 1 << 32, 1<<32 + 1, math.MaxInt}
	// otherKinds are all that are possible but that of a file, and such as are not possible.
	otherKinds = []int{math.MinInt, -1, 0, 2, 3, 4, 257, 1<<32 + 1, math.MaxInt}
)

// id returns a file by its id and its generation.
func id(n int, gen uint32) api.Outer { return api.Outer{Kind: 1, Id: n, Gen: gen} }

// place is what an id has to be: it is retired if its generation is beyond the last one.
type place struct {
	gen    uint64
	open   bool
	number int
}

// plan is what a table has to be: the chapter's words, written out a second time.
type plan []place

func planned(size int, first uint32) plan { return slices.Repeat(plan{{gen: uint64(first)}}, size) }

func (p plan) opened(number int) (api.Outer, api.Errno) {
	if number < 0 || number > 65_535 {
		return api.Outer{}, api.ErrArg
	}
	for i := range p {
		if !p[i].open && p[i].gen <= end {
			p[i].open, p[i].number = true, number
			return id(i, uint32(p[i].gen)), api.OK
		}
	}
	return api.Outer{}, api.ErrFull
}

func (p plan) number(o api.Outer) (int, api.Errno) {
	possible := o.Kind >= 1 && o.Kind <= 3 && o.Id >= 0 && o.Id <= 63 && o.Gen != 0
	switch {
	case !possible || o.Kind != 1:
		return 0, api.ErrArg
	case o.Id >= len(p):
		return 0, api.ErrRange
	case !p[o.Id].open || p[o.Id].gen != uint64(o.Gen):
		return 0, api.ErrStale
	}
	return p[o.Id].number, api.OK
}

func (p plan) closed(o api.Outer) api.Errno {
	_, e := p.number(o)
	if e == api.OK {
		p[o.Id] = place{gen: p[o.Id].gen + 1}
	}
	return e
}

func (p plan) all() []api.Outer {
	var all []api.Outer
	for i, x := range p {
		if x.open {
			all = append(all, id(i, uint32(x.gen)))
		}
	}
	return all
}

// opens and closes change a table and its plan.
func opens(t *testing.T, x *Table, p plan, numbers ...int) {
	t.Helper()
	for _, n := range numbers {
		o, e := x.Open(n)
		if want, wantE := p.opened(n); o != want || e != wantE {
			t.Errorf("Open(%d) = %v, %d, want %v, %d", n, o, e, want, wantE)
		}
	}
}

func closes(t *testing.T, x *Table, p plan, files ...api.Outer) {
	t.Helper()
	for _, o := range files {
		if e, want := x.Close(o), p.closed(o); e != want {
			t.Errorf("Close(%v) = %d, want %d", o, e, want)
		}
	}
}

// made returns a table of New, and its plan.
func made(t *testing.T, size int, first uint32) (*Table, plan) {
	t.Helper()
	x, e := New(size, first)
	if e != api.OK || x == nil {
		t.Fatalf("New(%d, %d) = %v, %d", size, first, x, e)
	}
	return x, planned(size, first)
}

// filled returns a table all of whose ids are open, and its plan; each of its files has a number of its own.
func filled(t *testing.T, size int, first uint32) (*Table, plan) {
	t.Helper()
	x, p := made(t, size, first)
	for i := range size {
		opens(t, x, p, 1000+i*7)
	}
	return x, p
}

// mixed returns a table, and its plan, with an id in each state: open in the last generation and in the one before it, retired, free after a file was closed, open again, and free from the start. Two files have the same number.
func mixed(t *testing.T) (*Table, plan) {
	t.Helper()
	x, p := made(t, 6, last-1)
	opens(t, x, p, 9, 8, 5, 5)
	closes(t, x, p, id(0, last-1), id(1, last-1), id(2, last-1))
	opens(t, x, p, 7, 0)
	closes(t, x, p, id(1, last))
	if want := (plan{{end, true, 7}, {end + 1, false, 0}, {end, false, 0}, {end - 1, true, 5}, {end - 1, false, 0}, {end - 1, false, 0}}); !slices.Equal(p, want) {
		t.Fatal(p)
	}
	opens(t, x, p, 5)
	closes(t, x, p, id(2, last))
	opens(t, x, p, 65_535)
	if want := (plan{{end, true, 7}, {end + 1, false, 0}, {end + 1, false, 0}, {end - 1, true, 5}, {end - 1, true, 65_535}, {end - 1, false, 0}}); !slices.Equal(p, want) {
		t.Fatal(p)
	}
	return x, p
}

// resources returns resources, possible ones and others, that may be taken for those of a table.
func resources(p plan) []api.Outer {
	var list []api.Outer
	for i := range 66 {
		gen := uint32(1)
		if i < len(p) {
			gen = uint32(p[i].gen)
		}
		for _, g := range []uint32{0, 1, gen - 2, gen - 1, gen, gen + 1, last} {
			list = append(list, id(i, g))
		}
	}
	for _, i := range otherIds {
		list = append(list, id(i, 0), id(i, 1), id(i, last-1), id(i, last))
	}
	for _, kind := range otherKinds {
		for _, i := range append([]int{0, len(p) - 1, len(p), 63}, otherIds...) {
			list = append(list, api.Outer{Kind: kind, Id: i}, api.Outer{Kind: kind, Id: i, Gen: 1}, api.Outer{Kind: kind, Id: i, Gen: last})
		}
		for _, o := range p.all() {
			list = append(list, api.Outer{Kind: kind, Id: o.Id, Gen: o.Gen})
		}
	}
	return append(list, api.Outer{})
}

// listed asks which files are open, and for their numbers.
func listed(t *testing.T, x *Table, p plan) {
	t.Helper()
	all := p.all()
	if l := x.All(); !slices.Equal(l, all) {
		t.Errorf("All: %v, want %v", l, all)
	}
	if n := x.Len(); n != len(all) {
		t.Errorf("Len: %d, want %d", n, len(all))
	}
	for _, o := range all {
		if n, e := x.Number(o); n != p[o.Id].number || e != api.OK {
			t.Errorf("Number(%v) = %d, %d, want %d", o, n, e, p[o.Id].number)
		}
	}
}

// is asks all questions about a table, and closes what it must not have.
func is(t *testing.T, x *Table, p plan) {
	t.Helper()
	listed(t, x, p)
	for _, o := range resources(p) {
		want, wantE := p.number(o)
		if n, e := x.Number(o); n != want || e != wantE {
			t.Errorf("Number(%v) = %d, %d, want %d, %d", o, n, e, want, wantE)
		}
		if wantE == api.OK {
			continue
		}
		if e := x.Close(o); e != wantE {
			t.Errorf("Close(%v) = %d, want %d", o, e, wantE)
		}
	}
	listed(t, x, p)
}

// has asks all questions about a table, and has a copy of it go on until all its ids are open, and then until none is.
func has(t *testing.T, x *Table, p plan) {
	t.Helper()
	is(t, x, p)
	c, q := x.Copy(), slices.Clone(p)
	for i := range len(p) + 1 {
		opens(t, c, q, i*3)
	}
	listed(t, c, q)
	for _, o := range slices.Backward(q.all()) {
		closes(t, c, q, o, o)
	}
	opens(t, c, q, 17)
	listed(t, c, q)
	listed(t, x, p)
}

// turns makes calls, each with a number by a rule that repeats only after many of them.
func turns(times int, call func(n uint64)) {
	n := uint64(1)
	for range times {
		n = n*6364136223846793005 + 1442695040888963407
		call(n >> 33)
	}
}

// orders calls f with the numbers from 0 on in all orders.
func orders(n int, f func([]int)) {
	list := make([]int, n)
	for i := range list {
		list[i] = i
	}
	var next func(fixed int)
	next = func(fixed int) {
		if fixed == n {
			f(list)
		}
		for i := fixed; i < n; i++ {
			list[fixed], list[i] = list[i], list[fixed]
			next(fixed + 1)
			list[fixed], list[i] = list[i], list[fixed]
		}
	}
	next(0)
}

// P9.1

func TestNew(t *testing.T) {
	for _, size := range sizes {
		for _, first := range firsts {
			x, p := made(t, size, first)
			if n, l := x.Len(), x.All(); n != 0 || len(l) != 0 {
				t.Errorf("New(%d, %d): Len %d, All %v", size, first, n, l)
			}
			has(t, x, p)
		}
	}
}

// New makes a table of exactly so many ids, in this first generation.
func TestSizesOfNew(t *testing.T) {
	for size := 1; size <= 64; size++ {
		for _, first := range firsts {
			x, _ := made(t, size, first)
			for i := range size {
				if o, e := x.Open(i); o != id(i, first) || e != api.OK {
					t.Errorf("New(%d, %d), Open = %v, %d, want %d", size, first, o, e, i)
				}
			}
			if o, e := x.Open(0); o != (api.Outer{}) || e != api.ErrFull {
				t.Errorf("New(%d, %d), Open = %v, %d", size, first, o, e)
			}
		}
	}
}

func TestNewRefuses(t *testing.T) {
	for _, size := range noSizes {
		for _, first := range append([]uint32{0}, firsts...) {
			if x, e := New(size, first); x != nil || e != api.ErrArg {
				t.Errorf("New(%d, %d) = %v, %d", size, first, x, e)
			}
		}
	}
	for size := 1; size <= 64; size++ {
		if x, e := New(size, 0); x != nil || e != api.ErrArg {
			t.Errorf("New(%d, 0) = %v, %d", size, x, e)
		}
	}
}

func TestNewTablesAreIndependent(t *testing.T) {
	a, p := made(t, 3, 5)
	b, q := made(t, 3, 5)
	opens(t, a, p, 6, 7)
	closes(t, a, p, id(0, 5))
	has(t, a, p)
	has(t, b, q)
	opens(t, b, q, 8, 9)
	has(t, a, p)
	has(t, b, q)
}

func TestCopy(t *testing.T) {
	for _, size := range sizes {
		for _, first := range firsts {
			x, p := made(t, size, first)
			has(t, x.Copy(), p)
			x, p = filled(t, size, first)
			has(t, x.Copy(), p)
			closes(t, x, p, id(size/2, first))
			c := x.Copy()
			if c == nil || c == x {
				t.Fatal("the copy is", c)
			}
			has(t, c, p)
			has(t, c.Copy(), p)
			has(t, x, p)
		}
	}
	x, p := mixed(t)
	has(t, x.Copy(), p)
}

// changes are calls that change a table of mixed, each in another way.
func changes(t *testing.T) map[string]func(x *Table, p plan) {
	return map[string]func(x *Table, p plan){
		"Open":           func(x *Table, p plan) { opens(t, x, p, 77) },
		"Open all":       func(x *Table, p plan) { opens(t, x, p, 1, 2, 3, 4) },
		"Close":          func(x *Table, p plan) { closes(t, x, p, id(3, last-1)) },
		"Close the last": func(x *Table, p plan) { closes(t, x, p, id(0, last)) },
		"Close, Open":    func(x *Table, p plan) { closes(t, x, p, id(4, last-1), id(3, last-1)); opens(t, x, p, 55) },
		"Close all":      func(x *Table, p plan) { closes(t, x, p, p.all()...) },
		"all of them": func(x *Table, p plan) {
			for range 8 {
				opens(t, x, p, 40, 41, 42)
				closes(t, x, p, p.all()...)
			}
		},
	}
}

func TestCopyIsIndependent(t *testing.T) {
	for one, change := range changes(t) {
		for two, other := range changes(t) {
			for _, changesCopy := range []bool{false, true} {
				changed, p := mixed(t)
				left, q := changed.Copy(), slices.Clone(p)
				if changesCopy {
					changed, left = left, changed
				}
				if change(changed, p); slices.Equal(p, q) {
					t.Error(one, "changes nothing")
				}
				is(t, changed, p)
				is(t, left, q)
				// The other one goes on, behind the first one's back.
				other(left, q)
				has(t, changed, p)
				has(t, left, q)
				if t.Failed() {
					t.Fatal(one, two, changesCopy)
				}
			}
		}
	}
}

// P9.2

func TestOpen(t *testing.T) {
	x, _ := made(t, 4, 9)
	for i := range 4 {
		if o, e := x.Open(5); o != id(i, 9) || e != api.OK {
			t.Error("Open", i, o, e)
		}
		if n, e := x.Number(id(i, 9)); n != 5 || e != api.OK {
			t.Error("Number", i, n, e)
		}
	}
	for range 3 {
		if o, e := x.Open(5); o != (api.Outer{}) || e != api.ErrFull {
			t.Error("Open of a full table:", o, e)
		}
	}
}

func TestOpenOfAnyNumber(t *testing.T) {
	x, p := made(t, 2, 1)
	for n := range 65_536 {
		o, e := x.Open(n)
		if got, f := x.Number(o); e != api.OK || got != n || f != api.OK {
			t.Fatal("Open, Number", n, o, e, got, f)
		}
		if e := x.Close(o); e != api.OK {
			t.Fatal("Close", n, o, e)
		}
	}
	p[0].gen += 65_536
	has(t, x, p)
	for _, n := range someNumbers {
		for _, m := range someNumbers {
			x, p := made(t, 3, 1)
			opens(t, x, p, n, m, n)
			has(t, x, p)
		}
	}
}

// A number that is none is refused whether there is a free id or not.
func TestOpenRefusesNumbers(t *testing.T) {
	for name, start := range map[string]func() (*Table, plan){
		"empty":   func() (*Table, plan) { return made(t, 2, 1) },
		"full":    func() (*Table, plan) { return filled(t, 2, 1) },
		"mixed":   func() (*Table, plan) { return mixed(t) },
		"retired": func() (*Table, plan) { x, p := filled(t, 2, last); closes(t, x, p, p.all()...); return x, p },
	} {
		x, p := start()
		for _, n := range noNumbers {
			if o, e := x.Open(n); o != (api.Outer{}) || e != api.ErrArg {
				t.Errorf("Open(%d) of a table that is %s = %v, %d", n, name, o, e)
			}
			listed(t, x, p)
		}
		has(t, x, p)
	}
}

func TestNumbersBesideTheEnds(t *testing.T) {
	for _, x := range []struct {
		number int
		e      api.Errno
	}{{-2, api.ErrArg}, {-1, api.ErrArg}, {0, api.OK}, {1, api.OK}, {65_534, api.OK}, {65_535, api.OK}, {65_536, api.ErrArg}, {65_537, api.ErrArg}} {
		table, _ := made(t, 1, 3)
		want := id(0, 3)
		if x.e != api.OK {
			want = api.Outer{}
		}
		if o, e := table.Open(x.number); o != want || e != x.e {
			t.Error("Open", x.number, o, e)
		}
	}
}

// Whatever files are closed, in whatever order, their ids are opened again by the smallest.
func TestOpenTakesTheSmallestId(t *testing.T) {
	for count := 1; count <= 5; count++ {
		orders(5, func(order []int) {
			x, p := filled(t, 5, 9)
			back := slices.Clone(order[:count])
			for _, i := range back {
				if e := x.Close(id(i, 9)); e != api.OK {
					t.Error("Close", i, e)
				}
				p[i] = place{gen: 10}
			}
			for _, i := range slices.Sorted(slices.Values(back)) {
				if o, e := x.Open(i); o != id(i, 10) || e != api.OK {
					t.Error("Open", o, e, "want", i, "of", back)
				}
				p[i] = place{10, true, i}
			}
			if o, e := x.Open(0); o != (api.Outer{}) || e != api.ErrFull {
				t.Error("Open", o, e)
			}
			listed(t, x, p)
		})
	}
}

func TestOpenOfTheGreatestTable(t *testing.T) {
	x, p := filled(t, 64, 1)
	is(t, x, p)
	for i := range 64 {
		// The step and 65 are without a common divisor: all ids are closed, and opened again at once.
		o := id((i+1)*8%65-1, 1)
		if e := x.Close(o); e != api.OK {
			t.Error("Close", o, e)
		}
		if again, e := x.Open(i); again != id(o.Id, 2) || e != api.OK {
			t.Error("Open", again, e, "want", o.Id)
		}
		p[o.Id] = place{2, true, i}
		listed(t, x, p)
		opens(t, x, p, 5)
	}
	is(t, x, p)
}

func TestRetiredIdsAreNotOpened(t *testing.T) {
	for _, size := range sizes {
		// All of them, from the first one on and from the last one on, until none is left.
		for _, backwards := range []bool{false, true} {
			x, p := filled(t, size, last)
			for i := range size {
				o := id(i, last)
				if backwards {
					o.Id = size - 1 - i
				}
				if e := x.Close(o); e != api.OK {
					t.Error("Close", o, e)
				}
				p[o.Id] = place{gen: end + 1}
				for _, n := range []int{0, 5, 65_535} {
					if o, e := x.Open(n); o != (api.Outer{}) || e != api.ErrFull {
						t.Error("Open", o, e)
					}
				}
				listed(t, x, p)
			}
			is(t, x, p)
			is(t, x.Copy(), p)
		}
	}
	// Beside ids that are not retired.
	x, p := filled(t, 3, last-1)
	closes(t, x, p, id(1, last-1))
	opens(t, x, p, 4)
	closes(t, x, p, id(1, last), id(2, last-1))
	if o, e := x.Open(6); o != id(2, last) || e != api.OK {
		t.Error("Open", o, e)
	}
	p[2] = place{end, true, 6}
	if o, e := x.Open(7); o != (api.Outer{}) || e != api.ErrFull {
		t.Error("Open", o, e)
	}
	is(t, x, p)
}

func TestGenerationsGrowToTheLast(t *testing.T) {
	x, _ := made(t, 1, last-20)
	for gen := last - 20; ; gen++ {
		if o, e := x.Open(int(last - gen)); o != id(0, gen) || e != api.OK {
			t.Fatal("Open", gen, o, e)
		}
		if e := x.Close(id(0, gen)); e != api.OK {
			t.Fatal("Close", gen, e)
		}
		if gen == last {
			break
		}
	}
	is(t, x, plan{{gen: end + 1}})
}

// P9.3

func TestNumberAndClose(t *testing.T) {
	for _, x := range []struct {
		o      api.Outer
		number int
		e      api.Errno
	}{
		// Open, in the last generation.
		{id(0, last), 7, api.OK},
		{id(0, last-1), 0, api.ErrStale},
		{id(0, last-2), 0, api.ErrStale},
		{id(0, 1), 0, api.ErrStale},
		{id(0, 0), 0, api.ErrArg},
		// Retired.
		{id(1, last), 0, api.ErrStale},
		{id(1, last-1), 0, api.ErrStale},
		{id(1, 0), 0, api.ErrArg},
		{id(2, last), 0, api.ErrStale},
		// Open, in the first generation.
		{id(3, last-1), 5, api.OK},
		{id(3, last), 0, api.ErrStale},
		{id(3, last-2), 0, api.ErrStale},
		{id(3, 0), 0, api.ErrArg},
		{id(4, last-1), 65_535, api.OK},
		// Free, and never open.
		{id(5, last-1), 0, api.ErrStale},
		{id(5, last), 0, api.ErrStale},
		{id(5, 1), 0, api.ErrStale},
		{id(5, 0), 0, api.ErrArg},
		// The table does not have the id, which is possible.
		{id(6, last-1), 0, api.ErrRange},
		{id(6, last), 0, api.ErrRange},
		{id(6, 1), 0, api.ErrRange},
		{id(6, 0), 0, api.ErrArg},
		{id(63, 1), 0, api.ErrRange},
		{id(63, last), 0, api.ErrRange},
		{id(63, 0), 0, api.ErrArg},
		// The id is not possible.
		{id(64, last), 0, api.ErrArg},
		{id(64, 1), 0, api.ErrArg},
		{id(-1, last), 0, api.ErrArg},
		{id(-1, 0), 0, api.ErrArg},
		{id(256, last), 0, api.ErrArg},
		{id(1<<32, last), 0, api.ErrArg},
		{id(1<<32+3, last-1), 0, api.ErrArg},
		{id(math.MaxInt, last), 0, api.ErrArg},
		{id(math.MinInt, last), 0, api.ErrArg},
		// The Kind is another one, of an id that is open, of a stale one, and of one that there is not.
		{api.Outer{Kind: 2, Id: 0, Gen: last}, 0, api.ErrArg},
		{api.Outer{Kind: 3, Id: 3, Gen: last - 1}, 0, api.ErrArg},
		{api.Outer{Kind: 2, Id: 1, Gen: last}, 0, api.ErrArg},
		{api.Outer{Kind: 3, Id: 6, Gen: 1}, 0, api.ErrArg},
		{api.Outer{Kind: 2, Id: 63, Gen: last}, 0, api.ErrArg},
		{api.Outer{Kind: 0, Id: 0, Gen: last}, 0, api.ErrArg},
		{api.Outer{Kind: 4, Id: 0, Gen: last}, 0, api.ErrArg},
		{api.Outer{Kind: -1, Id: 0, Gen: last}, 0, api.ErrArg},
		{api.Outer{Kind: 1<<32 + 1, Id: 0, Gen: last}, 0, api.ErrArg},
		{api.Outer{}, 0, api.ErrArg},
	} {
		table, p := mixed(t)
		if n, e := table.Number(x.o); n != x.number || e != x.e {
			t.Errorf("Number(%v) = %d, %d, want %d, %d", x.o, n, e, x.number, x.e)
		}
		is(t, table, p)
		if e := table.Close(x.o); e != x.e {
			t.Errorf("Close(%v) = %d, want %d", x.o, e, x.e)
		}
		if x.e == api.OK {
			p[x.o.Id] = place{gen: uint64(x.o.Gen) + 1}
		}
		has(t, table, p)
	}
}

func TestOtherKinds(t *testing.T) {
	x, p := filled(t, 64, 3)
	for _, kind := range otherKinds {
		for i := range 64 {
			o := api.Outer{Kind: kind, Id: i, Gen: 3}
			if n, e := x.Number(o); n != 0 || e != api.ErrArg {
				t.Error("Number", o, n, e)
			}
			if e := x.Close(o); e != api.ErrArg {
				t.Error("Close", o, e)
			}
		}
	}
	has(t, x, p)
}

func TestClose(t *testing.T) {
	for _, size := range sizes {
		for _, first := range firsts {
			for i := range size {
				x, p := filled(t, size, first)
				if e := x.Close(id(i, first)); e != api.OK {
					t.Error("Close", size, i, first, e)
				}
				p[i] = place{gen: uint64(first) + 1}
				listed(t, x, p)
				for range 2 {
					if n, e := x.Number(id(i, first)); n != 0 || e != api.ErrStale {
						t.Error("Number of a file that was closed:", n, e)
					}
					if e := x.Close(id(i, first)); e != api.ErrStale {
						t.Error("Close again:", e)
					}
				}
				has(t, x, p)
			}
		}
	}
}

// Every possible id, for a table of every size.
func TestIdsThatATableDoesNotHave(t *testing.T) {
	for size := 1; size <= 64; size++ {
		x, p := made(t, size, 2)
		for range 2 {
			for i := -1; i <= 65; i++ {
				_, want := p.number(id(i, 2))
				if i >= size && i < 64 && want != api.ErrRange {
					t.Fatal(i, want)
				}
				if n, e := x.Number(id(i, 2)); e != want || e != api.OK && n != 0 {
					t.Errorf("Number of %d of %d: %d, %d, want %d", i, size, n, e, want)
				}
				if want == api.OK {
					continue
				}
				if e := x.Close(id(i, 2)); e != want {
					t.Errorf("Close of %d of %d: %d, want %d", i, size, e, want)
				}
			}
			for i := range size {
				opens(t, x, p, i)
			}
		}
	}
}

// P9.4

func TestAllAndLen(t *testing.T) {
	x, p := mixed(t)
	if l := x.All(); !slices.Equal(l, []api.Outer{id(0, last), id(3, last-1), id(4, last-1)}) || x.Len() != 3 {
		t.Error("All, Len:", l, x.Len())
	}
	listed(t, x, p)
	for _, size := range sizes {
		x, p := made(t, size, last-1)
		listed(t, x, p)
		for i := range size {
			opens(t, x, p, i)
			listed(t, x, p)
		}
		// Each third one, so that there are gaps, and then all.
		for step := 3; step > 0; step -= 2 {
			for i := 0; i < size; i += step {
				closes(t, x, p, id(i, last-1))
				listed(t, x, p)
			}
		}
		if n, l := x.Len(), x.All(); n != 0 || len(l) != 0 {
			t.Error("Len, All of a table without files:", n, l)
		}
	}
}

func TestAllIsInTheOrderOfIds(t *testing.T) {
	x, p := filled(t, 5, 3)
	closes(t, x, p, id(4, 3), id(2, 3), id(0, 3))
	opens(t, x, p, 1, 2)
	if l := x.All(); !slices.Equal(l, []api.Outer{id(0, 4), id(1, 3), id(2, 4), id(3, 3)}) {
		t.Error("All", l)
	}
	x, p = filled(t, 64, 3)
	for i := range 64 {
		closes(t, x, p, id((i+1)*8%65-1, 3))
		opens(t, x, p, i)
	}
	l := x.All()
	for i, o := range l {
		if o != id(i, 4) {
			t.Error("All", i, o)
		}
	}
	if len(l) != 64 || x.Len() != 64 {
		t.Error("All, Len:", len(l), x.Len())
	}
}

// R4

func TestAllIsNewMemory(t *testing.T) {
	for _, size := range sizes {
		x, p := filled(t, size, 6)
		a, b := x.All(), x.All()
		for i := range a {
			a[i] = id(63-i, 1)
		}
		_ = append(a[:0], id(0, 9))
		clear(a[:cap(a)])
		if want := p.all(); !slices.Equal(b, want) {
			t.Error("two results share memory:", b)
		}
		is(t, x, p)
		// What comes later does not change what was returned.
		before := slices.Clone(b)
		closes(t, x, p, p.all()...)
		opens(t, x, p, 3)
		if !slices.Equal(b, before) {
			t.Error("a result is changed by later calls:", b)
		}
		has(t, x, p)
	}
}

// What an assignment of the struct made is the same table: its ids and their numbers stay together.
func TestAssignedTables(t *testing.T) {
	x, p := mixed(t)
	y := *x
	opens(t, x, p, 50)
	closes(t, &y, p, id(3, last-1))
	opens(t, &y, p, 60)
	is(t, x, p)
	is(t, &y, p)
	has(t, y.Copy(), p)
}

// P9.5 and P9.6

// No file is returned twice, two that are open have different ids, and what was closed is stale from then on.
func TestNeverAgain(t *testing.T) {
	for _, size := range []int{1, 4, 64} {
		for _, first := range []uint32{1, 1 << 31, last - 30} {
			x, _ := made(t, size, first)
			open, over, all := map[int]api.Outer{}, []api.Outer{}, map[api.Outer]bool{}
			turns(3000, func(n uint64) {
				if n%2 == 0 || len(open) == 0 {
					o, e := x.Open(int(n / 64 % 65_536))
					if e == api.ErrFull && o == (api.Outer{}) {
						return
					}
					if _, is := open[o.Id]; is || all[o] || e != api.OK {
						t.Fatal("Open", o, e, "is open:", is, "was returned:", all[o])
					}
					open[o.Id], all[o] = o, true
				} else {
					ids := slices.Sorted(maps.Keys(open))
					o := open[ids[int(n/2)%len(ids)]]
					if e := x.Close(o); e != api.OK {
						t.Fatal("Close", o, e)
					}
					delete(open, o.Id)
					over = append(over, o)
				}
				// The latest ones, and some others.
				for i, o := range over {
					if len(over)-i > 10 && (n+uint64(i))%64 != 0 {
						continue
					}
					if m, e := x.Number(o); m != 0 || e != api.ErrStale {
						t.Fatal("Number", o, m, e)
					}
					if e := x.Close(o); e != api.ErrStale {
						t.Fatal("Close", o, e)
					}
				}
				if x.Len() != len(open) {
					t.Fatal("Len", x.Len(), "want", len(open))
				}
			})
			if first == last-30 && size < 64 && (len(all) != size*31 || x.Len() != 0) {
				t.Error("the ids are not all retired:", len(all), x.Len())
			}
		}
	}
}

func TestClosedFilesStayStale(t *testing.T) {
	x, p := filled(t, 3, last-5)
	over := []api.Outer{}
	for p[1].open {
		o := id(1, uint32(p[1].gen))
		closes(t, x, p, o)
		over = append(over, o)
		for range 2 {
			for _, o := range over {
				if n, e := x.Number(o); n != 0 || e != api.ErrStale {
					t.Error("Number", o, n, e)
				}
				if e := x.Close(o); e != api.ErrStale {
					t.Error("Close", o, e)
				}
			}
			// Once while the id is free, and once while it is open again, with the same number.
			listed(t, x, p)
			opens(t, x, p, 1007)
		}
		has(t, x, p)
	}
	if len(over) != 6 {
		t.Error(over)
	}
}

// P9.7

func TestOthersAreLeft(t *testing.T) {
	for _, size := range sizes {
		for _, first := range firsts {
			for i := range size {
				x, p := filled(t, size, first)
				before := slices.Delete(slices.Clone(p), i, i+1)
				if e := x.Close(id(i, first)); e != api.OK {
					t.Error("Close", i, e)
				}
				x.Open(4)
				l := slices.DeleteFunc(x.All(), func(o api.Outer) bool { return o.Id == i })
				for j, o := range l {
					if n, e := x.Number(o); n != before[j].number || e != api.OK {
						t.Error("Number", o, n, e, "want", before[j])
					}
				}
				if len(l) != size-1 {
					t.Error("All", l, "without", i, "of", size)
				}
			}
		}
	}
}

// Files with the same number are closed one by one.
func TestEqualNumbers(t *testing.T) {
	orders(4, func(order []int) {
		for _, n := range []int{0, 5, 65_535} {
			x, p := made(t, 4, 1)
			opens(t, x, p, n, n, n, n)
			for _, i := range order {
				closes(t, x, p, id(i, 1))
				listed(t, x, p)
			}
			opens(t, x, p, n)
			has(t, x, p)
		}
	})
}

func TestRefusalsAndQuestionsChangeNothing(t *testing.T) {
	x, p := mixed(t)
	for range 2 {
		for _, n := range noNumbers {
			x.Open(n)
		}
		for _, o := range resources(p) {
			x.Number(o)
			if _, e := p.number(o); e != api.OK {
				x.Close(o)
			}
		}
		x.All()
		x.Len()
		c := x.Copy()
		c.Open(3)
		c.Close(id(0, last))
		listed(t, x, p)
	}
	has(t, x, p)
	opens(t, x, p, 1, 2, 3)
	// The table is full now.
	has(t, x, p)
}

// TestShortSequences makes all sequences of a few changes, right ones and wrong ones, on tables close to the last generation.
func TestShortSequences(t *testing.T) {
	for _, size := range []int{1, 2} {
		var next func(x *Table, p plan, left int)
		next = func(x *Table, p plan, left int) {
			is(t, x, p)
			if left == 0 || t.Failed() {
				return
			}
			for _, n := range []int{5, 6, -1} {
				c, q := x.Copy(), slices.Clone(p)
				opens(t, c, q, n)
				next(c, q, left-1)
			}
			for i := range size {
				for _, g := range []uint32{last - 1, last} {
					c, q := x.Copy(), slices.Clone(p)
					closes(t, c, q, id(i, g))
					next(c, q, left-1)
				}
			}
			listed(t, x, p)
		}
		x, p := made(t, size, last-1)
		next(x, p, 6-size)
	}
}

func TestLongSequences(t *testing.T) {
	for _, size := range []int{1, 3, 64} {
		for _, first := range []uint32{1, last - 20} {
			x, p := made(t, size, first)
			most := 0
			turns(4000, func(n uint64) {
				i := int(n / 16 % uint64(size+1))
				gen := first
				if i < size {
					gen = uint32(p[i].gen)
				}
				switch n % 16 {
				case 0:
					closes(t, x, p, id(i, gen-1))
				case 1, 2, 3, 4:
					closes(t, x, p, id(i, gen))
				case 5:
					x, p = x.Copy(), slices.Clone(p)
				default:
					opens(t, x, p, int(n/64%65_538)-1)
				}
				most = max(most, len(p.all()))
				if listed(t, x, p); n%97 == 0 {
					is(t, x, p)
				}
				if t.Failed() {
					t.FailNow()
				}
			})
			has(t, x, p)
			if most != size {
				t.Error("the table was never full:", most)
			}
		}
	}
}

// R2

func TestTablesThatAreNotValid(t *testing.T) {
	for name, x := range map[string]*Table{"nil": nil, "zero": {}, "new": new(Table)} {
		for range 2 {
			// ErrNil comes before what is wrong with the arguments.
			for _, n := range slices.Concat(someNumbers, noNumbers) {
				if o, e := x.Open(n); o != (api.Outer{}) || e != api.ErrNil {
					t.Error(name, "Open", n, o, e)
				}
			}
			for _, o := range resources(planned(3, 1)) {
				if n, e := x.Number(o); n != 0 || e != api.ErrNil {
					t.Error(name, "Number", o, n, e)
				}
				if e := x.Close(o); e != api.ErrNil {
					t.Error(name, "Close", o, e)
				}
			}
			if l := x.All(); len(l) != 0 {
				t.Error(name, "All", l)
			}
			if n := x.Len(); n != 0 {
				t.Error(name, "Len", n)
			}
			if c := x.Copy(); c != nil {
				t.Error(name, "Copy", c)
			}
		}
	}
}

// R8

func TestEqualCallsReturnEqualResults(t *testing.T) {
	for _, change := range changes(t) {
		a, p := mixed(t)
		change(a, p)
		for range 3 {
			b, q := mixed(t)
			c, r := b.Copy(), slices.Clone(q)
			change(b, q)
			change(c, r)
			if l := a.All(); !slices.Equal(l, b.All()) || !slices.Equal(l, c.All()) {
				t.Error("All:", l, b.All(), c.All())
			}
			has(t, b, p)
			has(t, c, p)
		}
	}
}

// The examples of the chapter.

func TestExamples(t *testing.T) {
	x, _ := made(t, 2, 4294967294)
	opened := func(number int, want api.Outer, wantE api.Errno) {
		t.Helper()
		if o, e := x.Open(number); o != want || e != wantE {
			t.Error("Open", number, o, e)
		}
	}
	asked := func(o api.Outer, want int, wantE api.Errno) {
		t.Helper()
		if n, e := x.Number(o); n != want || e != wantE {
			t.Error("Number", o, n, e)
		}
	}
	closed := func(o api.Outer, want api.Errno) {
		t.Helper()
		if e := x.Close(o); e != want {
			t.Error("Close", o, e)
		}
	}
	opened(5, id(0, 4294967294), api.OK)
	opened(5, id(1, 4294967294), api.OK)
	opened(6, api.Outer{}, api.ErrFull)
	asked(id(1, 4294967294), 5, api.OK)
	asked(id(1, 1), 0, api.ErrStale)
	asked(id(2, 1), 0, api.ErrRange)
	asked(api.Outer{Kind: 2, Id: 1, Gen: 4294967294}, 0, api.ErrArg)
	closed(id(0, 4294967294), api.OK)
	closed(id(0, 4294967294), api.ErrStale)
	opened(7, id(0, 4294967295), api.OK)
	asked(id(0, 4294967294), 0, api.ErrStale)
	if l := x.All(); !slices.Equal(l, []api.Outer{id(0, 4294967295), id(1, 4294967294)}) {
		t.Error("All", l)
	}
	closed(id(0, 4294967295), api.OK)
	opened(8, api.Outer{}, api.ErrFull)
	opened(-1, api.Outer{}, api.ErrArg)
	opened(65536, api.Outer{}, api.ErrArg)
	for _, refused := range []struct {
		size  int
		first uint32
	}{{65, 1}, {1, 0}} {
		if x, e := New(refused.size, refused.first); x != nil || e != api.ErrArg {
			t.Error("New", refused, x, e)
		}
	}
}
