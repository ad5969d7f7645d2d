package heap

import (
	"math"
	"slices"
	"testing"

	"estray/api"
	"estray/fields"
)

const (
	last = api.MaxGen
	end  = uint64(last)
)

var (
	// none is the zero reference.
	none = api.Ref{}
	// sizes are the least and the greatest ones, and some between.
	sizes = []int{1, 2, 3, 64, 65, 255, 256}
	// noSizes are none; some would be sizes in fewer bits.
	noSizes = []int{math.MinInt, math.MinInt + 1, -1<<32 + 1, -256, -2, -1, 0, 257, 258, 512, 1 << 16, 1 << 32, 1<<32 + 1, 1<<32 + 256, math.MaxInt}
	// firsts are the first generations, the last ones, and some between.
	firsts = []uint32{1, 2, 7, 1 << 31, last - 2, last - 1, last}
	// noCounts are numbers of fields that no object has; some would be such in fewer bits.
	noCounts = []int{math.MinInt, -1 << 32, -4, -1, 5, 6, 255, 256, 257, 1 << 32, 1<<32 + 1, math.MaxInt}
	// noIndexes are those of no field of any object; some would be such in fewer bits.
	noIndexes = []int{math.MinInt, -1 << 32, -4, -1, 4, 5, 256, 257, 1 << 32, 1<<32 + 1, math.MaxInt}
	// noSlots are those of no heap; some would be slots in fewer bits.
	noSlots = []int{math.MinInt, -1 << 32, -256, -255, -1, 256, 257, 1000, 1 << 16, 1 << 32, 1<<32 + 1, math.MaxInt}
)

// ref returns a name.
func ref(slot int, gen uint32) api.Ref { return api.Ref{Slot: slot, Gen: gen} }

// spot is what a slot has to be: it is retired if its generation is beyond the last one.
type spot struct {
	gen    uint64
	there  bool
	n      int
	fields [4]api.Ref
	handle bool
}

// plan is what a heap has to be: the chapter's words, written out a second time.
type plan []spot

func planned(size int, first uint32) plan { return slices.Repeat(plan{{gen: uint64(first)}}, size) }

// makable, storable and checked say what Make, Store and Free return; build, store and free what they change, too.
func (p plan) makable(n int, handle bool) (api.Ref, api.Errno) {
	if n < 0 || n > 4 || handle && n > 0 {
		return none, api.ErrArg
	}
	i := slices.IndexFunc(p, func(s spot) bool { return !s.there && s.gen <= end })
	if i < 0 {
		return none, api.ErrFull
	}
	return ref(i, uint32(p[i].gen)), api.OK
}

func (p plan) build(n int, handle bool) (api.Ref, api.Errno) {
	r, e := p.makable(n, handle)
	if e == api.OK {
		p[r.Slot] = spot{gen: uint64(r.Gen), there: true, n: n, handle: handle}
	}
	return r, e
}

// checked returns the error of a name.
func (p plan) checked(r api.Ref) api.Errno {
	switch {
	case r.Slot < 0 || r.Slot >= len(p):
		return api.ErrRange
	case !p[r.Slot].there || p[r.Slot].gen != uint64(r.Gen):
		return api.ErrStale
	}
	return api.OK
}

func (p plan) free(r api.Ref) api.Errno {
	e := p.checked(r)
	if e == api.OK {
		p[r.Slot] = spot{gen: uint64(r.Gen) + 1}
	}
	return e
}

func (p plan) load(r api.Ref, i int) (api.Ref, api.Errno) {
	if e := p.checked(r); e != api.OK {
		return none, e
	}
	if i < 0 || i >= p[r.Slot].n {
		return none, api.ErrRange
	}
	return p[r.Slot].fields[i], api.OK
}

func (p plan) storable(r api.Ref, i int, v api.Ref) (api.Ref, api.Errno) {
	was, e := p.load(r, i)
	if e == api.OK && v != none {
		e = p.checked(v)
	}
	if e != api.OK {
		return none, e
	}
	return was, e
}

func (p plan) store(r api.Ref, i int, v api.Ref) (api.Ref, api.Errno) {
	was, e := p.storable(r, i, v)
	if e == api.OK {
		p[r.Slot].fields[i] = v
	}
	return was, e
}

func (p plan) object(r api.Ref) (fields.Object, api.Errno) {
	if e := p.checked(r); e != api.OK {
		return fields.Object{}, e
	}
	s := p[r.Slot]
	return fields.Object{N: s.n, Fields: s.fields, Handle: s.handle}, api.OK
}

func (p plan) all() []api.Ref {
	var all []api.Ref
	for i, s := range p {
		if s.there {
			all = append(all, ref(i, uint32(s.gen)))
		}
	}
	return all
}

func (p plan) left() int {
	left := 0
	for _, s := range p {
		if !s.there && s.gen <= end {
			left++
		}
	}
	return left
}

// makes, frees and stores change a heap and its plan.
func makes(t *testing.T, h *Heap, p plan, n int, handle bool) api.Ref {
	t.Helper()
	r, e := h.Make(n, handle)
	if want, wantE := p.build(n, handle); r != want || e != wantE {
		t.Errorf("Make(%d, %t) = %v, %d, want %v, %d", n, handle, r, e, want, wantE)
	}
	return r
}

func frees(t *testing.T, h *Heap, p plan, names ...api.Ref) {
	t.Helper()
	for _, r := range names {
		if e, want := h.Free(r), p.free(r); e != want {
			t.Errorf("Free(%v) = %d, want %d", r, e, want)
		}
	}
}

func stores(t *testing.T, h *Heap, p plan, r api.Ref, i int, v api.Ref) {
	t.Helper()
	was, e := h.Store(r, i, v)
	if want, wantE := p.store(r, i, v); was != want || e != wantE {
		t.Errorf("Store(%v, %d, %v) = %v, %d, want %v, %d", r, i, v, was, e, want, wantE)
	}
}

// made returns a heap of New, and its plan.
func made(t *testing.T, size int, first uint32) (*Heap, plan) {
	t.Helper()
	h, e := New(size, first)
	if e != api.OK || h == nil {
		t.Fatalf("New(%d, %d) = %v, %d", size, first, h, e)
	}
	return h, planned(size, first)
}

// filled returns a heap all of whose slots have objects, of all sorts, whose fields have all sorts of names, and its plan.
func filled(t *testing.T, size int, first uint32) (*Heap, plan) {
	t.Helper()
	h, p := made(t, size, first)
	for i := range size {
		makes(t, h, p, max(4-i%6, 0), i%6 == 5)
	}
	for i := range size {
		for f := range p[i].n {
			if (i+f)%5 != 0 {
				stores(t, h, p, ref(i, first), f, ref((i*7+f*3)%size, first))
			}
		}
	}
	return h, p
}

// mixed returns a heap, and its plan, with a slot in each state: with an object in the last generation and in the one before it, with fields that have objects which are there, which are not, and none; with a handle; retired; free after an object was freed; and free from the start.
func mixed(t *testing.T) (*Heap, plan) {
	t.Helper()
	h, p := made(t, 8, last-1)
	for _, n := range []int{3, 1, 2, 4, 1, 0, 2} {
		makes(t, h, p, n, n == 0)
	}
	stores(t, h, p, ref(1, last-1), 0, ref(3, last-1))
	stores(t, h, p, ref(3, last-1), 0, ref(0, last-1))
	stores(t, h, p, ref(3, last-1), 1, ref(5, last-1))
	stores(t, h, p, ref(3, last-1), 3, ref(3, last-1))
	frees(t, h, p, ref(0, last-1), ref(1, last-1), ref(2, last-1), ref(4, last-1))
	for _, n := range []int{2, 0, 0, 4} {
		makes(t, h, p, n, n == 0)
	}
	stores(t, h, p, ref(0, last), 1, ref(1, last))
	stores(t, h, p, ref(4, last), 2, ref(4, last))
	frees(t, h, p, ref(1, last), ref(2, last), ref(6, last-1))
	want := plan{
		{gen: end, there: true, n: 2, fields: [4]api.Ref{{}, ref(1, last)}},
		{gen: end + 1},
		{gen: end + 1},
		{gen: end - 1, there: true, n: 4, fields: [4]api.Ref{ref(0, last-1), ref(5, last-1), {}, ref(3, last-1)}},
		{gen: end, there: true, n: 4, fields: [4]api.Ref{{}, {}, ref(4, last), {}}},
		{gen: end - 1, there: true, handle: true},
		{gen: end},
		{gen: end - 1},
	}
	if !slices.Equal(p, want) {
		t.Fatal(p)
	}
	return h, p
}

// names returns names, of objects and others: with each slot and beyond, in the generations beside its own.
func names(p plan) []api.Ref {
	list := []api.Ref{none}
	for i := range len(p) + 2 {
		gen := uint32(1)
		if i < len(p) {
			gen = uint32(p[i].gen)
		}
		for _, g := range []uint32{0, 1, gen - 2, gen - 1, gen, gen + 1, last} {
			list = append(list, ref(i, g))
		}
	}
	for _, i := range append([]int{-len(p), 1<<8 + len(p) - 1, 1<<32 + len(p) - 1}, noSlots...) {
		list = append(list, ref(i, 0), ref(i, 1), ref(i, last-1), ref(i, last))
	}
	return list
}

// listed asks which objects there are, what is in their fields, and how much room there is.
func listed(t *testing.T, h *Heap, p plan) {
	t.Helper()
	all := p.all()
	if l := h.All(); !slices.Equal(l, all) {
		t.Errorf("All: %v, want %v", l, all)
	}
	if n, left := h.Len(), h.Left(); n != len(all) || left != p.left() {
		t.Errorf("Len, Left: %d, %d, want %d, %d", n, left, len(all), p.left())
	}
	for _, r := range all {
		want, _ := p.object(r)
		if o, e := h.Object(r); o != want || e != api.OK || !h.Has(r) {
			t.Errorf("Object(%v) = %v, %d, want %v, Has %t", r, o, e, want, h.Has(r))
		}
		for i := -1; i <= 4; i++ {
			loads(t, h, p, r, i)
		}
	}
}

// loads asks for a field.
func loads(t *testing.T, h *Heap, p plan, r api.Ref, i int) {
	t.Helper()
	v, e := h.Load(r, i)
	if want, wantE := p.load(r, i); v != want || e != wantE {
		t.Errorf("Load(%v, %d) = %v, %d, want %v, %d", r, i, v, e, want, wantE)
	}
}

// isOf asks all questions about a name, and makes the calls with it that a heap has to refuse.
func isOf(t *testing.T, h *Heap, p plan, r api.Ref) {
	t.Helper()
	want, e := p.object(r)
	if o, f := h.Object(r); o != want || f != e {
		t.Errorf("Object(%v) = %v, %d, want %v, %d", r, o, f, want, e)
	}
	if there := h.Has(r); there != (e == api.OK) {
		t.Errorf("Has(%v) = %t, error %d", r, there, e)
	}
	if e != api.OK {
		frees(t, h, p, r)
	}
	values := append([]api.Ref{none, r, ref(0, 0), ref(0, 1), ref(1, 0), ref(-1, 1), ref(len(p), 1)}, p.all()[:min(len(p.all()), 2)]...)
	for _, i := range []int{math.MinInt, -1, 0, 1, 2, 3, 4, math.MaxInt} {
		loads(t, h, p, r, i)
		for _, v := range values {
			if _, e := p.storable(r, i, v); e != api.OK {
				stores(t, h, p, r, i, v)
			}
		}
	}
}

// is asks all questions about a heap, and makes the calls that it has to refuse.
func is(t *testing.T, h *Heap, p plan) {
	t.Helper()
	listed(t, h, p)
	for _, r := range names(p) {
		isOf(t, h, p, r)
	}
	for n := -1; n <= 5; n++ {
		for _, handle := range []bool{false, true} {
			if _, e := p.makable(n, handle); e != api.OK {
				makes(t, h, p, n, handle)
			}
		}
	}
	listed(t, h, p)
}

// has asks all questions about a heap, and has a copy of it go on until nothing more can be made, and then until nothing is there.
func has(t *testing.T, h *Heap, p plan) {
	t.Helper()
	is(t, h, p)
	c, q := h.Copy(), slices.Clone(p)
	for i := range p.left() + 1 {
		makes(t, c, q, i%5, i%5 == 0 && i%2 == 0)
	}
	all := q.all()
	for k, r := range all {
		for i := range q[r.Slot].n {
			stores(t, c, q, r, i, all[(k*5+i)%len(all)])
		}
	}
	listed(t, c, q)
	for _, r := range slices.Backward(all) {
		frees(t, c, q, r, r)
	}
	makes(t, c, q, 4, false)
	listed(t, c, q)
	listed(t, h, p)
}

// turns makes calls, each with a number by a rule that repeats only after many of them.
func turns(count int, call func(n uint64)) {
	n := uint64(1)
	for range count {
		n = n*6364136223846793005 + 1442695040888963407
		call(n >> 33)
	}
}

// orders calls f with the numbers from 0 on in all orders.
func orders(n int, f func([]int)) {
	list := make([]int, n)
	for i := range list {
		list[i] = i
	}
	var next func(fixed int)
	next = func(fixed int) {
		if fixed == n {
			f(list)
		}
		for i := fixed; i < n; i++ {
			list[fixed], list[i] = list[i], list[fixed]
			next(fixed + 1)
			list[fixed], list[i] = list[i], list[fixed]
		}
	}
	next(0)
}

// P14.1

func TestNew(t *testing.T) {
	for _, size := range sizes {
		for _, first := range firsts {
			h, p := made(t, size, first)
			if n, left, l := h.Len(), h.Left(), h.All(); n != 0 || left != size || len(l) != 0 {
				t.Errorf("New(%d, %d): Len %d, Left %d, All %v", size, first, n, left, l)
			}
			has(t, h, p)
		}
	}
}

// New makes a heap of exactly so many slots, in this first generation.
func TestSizesOfNew(t *testing.T) {
	for size := 1; size <= 256; size++ {
		for _, first := range []uint32{1, 9, last} {
			h, _ := made(t, size, first)
			for i := range size {
				if r, e := h.Make(2, false); r != ref(i, first) || e != api.OK || h.Left() != size-1-i {
					t.Errorf("New(%d, %d), Make = %v, %d, want %d, Left %d", size, first, r, e, i, h.Left())
				}
			}
			if r, e := h.Make(2, false); r != none || e != api.ErrFull {
				t.Errorf("New(%d, %d), Make = %v, %d", size, first, r, e)
			}
		}
	}
}

func TestNewRefuses(t *testing.T) {
	refused := func(size int, first uint32) {
		t.Helper()
		if h, e := New(size, first); h != nil || e != api.ErrArg {
			t.Errorf("New(%d, %d) = %v, %d", size, first, h, e)
		}
	}
	for _, size := range noSizes {
		for _, first := range append([]uint32{0}, firsts...) {
			refused(size, first)
		}
	}
	for size := 1; size <= 256; size++ {
		refused(size, 0)
	}
}

func TestNewHeapsAreIndependent(t *testing.T) {
	a, p := made(t, 3, 5)
	b, q := made(t, 3, 5)
	makes(t, a, p, 2, false)
	makes(t, a, p, 1, false)
	stores(t, a, p, ref(0, 5), 1, ref(1, 5))
	frees(t, a, p, ref(1, 5))
	has(t, a, p)
	has(t, b, q)
	makes(t, b, q, 4, false)
	stores(t, b, q, ref(0, 5), 1, ref(0, 5))
	makes(t, b, q, 0, true)
	has(t, a, p)
	has(t, b, q)
}

func TestCopy(t *testing.T) {
	for _, size := range sizes {
		for _, first := range []uint32{1, last - 1, last} {
			h, p := made(t, size, first)
			listed(t, h.Copy(), p)
			h, p = filled(t, size, first)
			has(t, h.Copy(), p)
			frees(t, h, p, ref(size/2, first))
			stores(t, h, p, ref(0, first), 2, none)
			c := h.Copy()
			if c == nil || c == h {
				t.Fatal("the copy is", c)
			}
			has(t, c, p)
			listed(t, c.Copy(), p)
			has(t, h, p)
		}
	}
	h, p := mixed(t)
	has(t, h.Copy(), p)
	has(t, h.Copy().Copy(), p)
}

// changes are calls that change a heap of mixed, each in another way.
func changes(t *testing.T) map[string]func(h *Heap, p plan) {
	return map[string]func(h *Heap, p plan){
		"Make":          func(h *Heap, p plan) { makes(t, h, p, 3, false) },
		"Make a handle": func(h *Heap, p plan) { makes(t, h, p, 0, true) },
		"Make all": func(h *Heap, p plan) {
			for n := range 3 {
				makes(t, h, p, n, n == 0)
			}
		},
		"Store":               func(h *Heap, p plan) { stores(t, h, p, ref(3, last-1), 2, ref(4, last)) },
		"Store another":       func(h *Heap, p plan) { stores(t, h, p, ref(3, last-1), 0, ref(0, last)) },
		"Store none":          func(h *Heap, p plan) { stores(t, h, p, ref(0, last), 1, none) },
		"Store the object":    func(h *Heap, p plan) { stores(t, h, p, ref(0, last), 0, ref(0, last)) },
		"Free":                func(h *Heap, p plan) { frees(t, h, p, ref(3, last-1)) },
		"Free a handle":       func(h *Heap, p plan) { frees(t, h, p, ref(5, last-1)) },
		"Free and retire":     func(h *Heap, p plan) { frees(t, h, p, ref(4, last)) },
		"Free, Make":          func(h *Heap, p plan) { frees(t, h, p, ref(3, last-1)); makes(t, h, p, 4, false) },
		"Free, Make a handle": func(h *Heap, p plan) { frees(t, h, p, ref(5, last-1)); makes(t, h, p, 0, true) },
		"Free all":            func(h *Heap, p plan) { frees(t, h, p, p.all()...) },
		"all of them": func(h *Heap, p plan) {
			for n := range 4 {
				r := makes(t, h, p, 4-n, false)
				stores(t, h, p, r, 0, r)
				for _, r := range p.all() {
					stores(t, h, p, r, n%3, p.all()[0])
				}
				frees(t, h, p, p.all()[n%2:]...)
			}
		},
	}
}

func TestCopyIsIndependent(t *testing.T) {
	for one, change := range changes(t) {
		for two, other := range changes(t) {
			for _, changesCopy := range []bool{false, true} {
				changed, p := mixed(t)
				left, q := changed.Copy(), slices.Clone(p)
				if changesCopy {
					changed, left = left, changed
				}
				if change(changed, p); slices.Equal(p, q) {
					t.Error(one, "changes nothing")
				}
				listed(t, changed, p)
				listed(t, left, q)
				// The other one goes on, behind the first one's back.
				other(left, q)
				has(t, changed, p)
				has(t, left, q)
				if t.Failed() {
					t.Fatal(one, two, changesCopy)
				}
			}
		}
	}
}

// P14.2

func TestMake(t *testing.T) {
	for n := range 5 {
		for _, handle := range []bool{false, true} {
			if handle && n > 0 {
				continue
			}
			h, p := made(t, 3, 9)
			for i := range 3 {
				r, e := h.Make(n, handle)
				if r != ref(i, 9) || e != api.OK || h.Left() != 2-i || h.Len() != i+1 {
					t.Errorf("Make(%d, %t) = %v, %d, Left %d, Len %d", n, handle, r, e, h.Left(), h.Len())
				}
				// What fields.New returns: so many fields, all of them none.
				want, e := fields.New(n, handle)
				if o, f := h.Object(r); o != want || f != api.OK || e != api.OK {
					t.Errorf("Object = %v, %d, want %v", o, f, want)
				}
				p.build(n, handle)
				is(t, h, p)
			}
			if r, e := h.Make(n, handle); r != none || e != api.ErrFull {
				t.Errorf("Make(%d, %t) = %v, %d", n, handle, r, e)
			}
			has(t, h, p)
		}
	}
}

// What is wrong with the object comes before the lack of room.
func TestMakeRefuses(t *testing.T) {
	empty, p := made(t, 2, 1)
	full, q := filled(t, 2, 1)
	used, r := made(t, 1, last)
	makes(t, used, r, 1, false)
	frees(t, used, r, ref(0, last))
	for range 2 {
		for _, h := range []*Heap{empty, full, used} {
			for _, n := range noCounts {
				for _, handle := range []bool{false, true} {
					if r, e := h.Make(n, handle); r != none || e != api.ErrArg {
						t.Errorf("Make(%d, %t) = %v, %d", n, handle, r, e)
					}
				}
			}
			for n := 1; n <= 4; n++ {
				if r, e := h.Make(n, true); r != none || e != api.ErrArg {
					t.Errorf("Make(%d, true) = %v, %d", n, r, e)
				}
			}
		}
		for _, h := range []*Heap{full, used} {
			for n := range 5 {
				if r, e := h.Make(n, false); r != none || e != api.ErrFull {
					t.Errorf("Make(%d, false) = %v, %d", n, r, e)
				}
			}
			if r, e := h.Make(0, true); r != none || e != api.ErrFull {
				t.Errorf("Make(0, true) = %v, %d", r, e)
			}
		}
		has(t, empty, p)
		has(t, full, q)
		has(t, used, r)
	}
}

// The lowest free slot is taken, in whatever order the slots became free.
func TestMakeTakesTheLowest(t *testing.T) {
	orders(5, func(order []int) {
		for count := range 6 {
			h, p := filled(t, 5, 3)
			for _, i := range order[:count] {
				frees(t, h, p, ref(i, 3))
			}
			for _, i := range slices.Sorted(slices.Values(order[:count])) {
				if r := makes(t, h, p, 1, false); r != ref(i, 4) {
					t.Fatal("Make", r, "want", i, order[:count])
				}
			}
			makes(t, h, p, 1, false)
			listed(t, h, p)
		}
	})
}

// An object has nothing of the one that had its slot before.
func TestObjectsBegin(t *testing.T) {
	sorts := []fields.Object{{N: 0}, {N: 1}, {N: 2}, {N: 3}, {N: 4}, {Handle: true}}
	for _, before := range sorts {
		for _, after := range sorts {
			h, p := made(t, 2, 1)
			makes(t, h, p, 4, false)
			r := makes(t, h, p, before.N, before.Handle)
			for i := range before.N {
				stores(t, h, p, r, i, ref(i%2, 1))
			}
			frees(t, h, p, r)
			next := makes(t, h, p, after.N, after.Handle)
			if o, e := h.Object(next); o != after || e != api.OK || next != ref(1, 2) {
				t.Errorf("Object(%v) = %v, %d, want %v after %v", next, o, e, after, before)
			}
			has(t, h, p)
		}
	}
}

// P14.3

func TestFree(t *testing.T) {
	for _, size := range sizes {
		for _, first := range firsts {
			h, p := filled(t, size, first)
			for _, i := range []int{0, size / 2, size - 1} {
				frees(t, h, p, ref(i, first), ref(i, first))
				if e := h.Free(ref(i, first)); e != api.ErrStale || h.Has(ref(i, first)) {
					t.Errorf("Free(%d) = %d again, of %d", i, e, first)
				}
			}
			listed(t, h, p)
			left := 0
			if first < last {
				left = min(size, 3)
			}
			if h.Left() != left {
				t.Errorf("Left %d, want %d: New(%d, %d)", h.Left(), left, size, first)
			}
			if first < last {
				if r := makes(t, h, p, 2, false); r != ref(0, first+1) {
					t.Error("Make", r)
				}
			}
			has(t, h, p)
		}
	}
}

func TestFreeRefuses(t *testing.T) {
	for _, size := range []int{1, 3, 256} {
		for _, first := range []uint32{1, 5, last} {
			h, p := filled(t, size, first)
			frees(t, h, p, ref(0, first))
			for _, r := range names(p) {
				want := p.checked(r)
				if want == api.OK {
					continue
				}
				if e := h.Free(r); e != want {
					t.Errorf("Free(%v) = %d, want %d", r, e, want)
				}
			}
			listed(t, h, p)
			for _, gen := range []uint32{0, 1, first, last} {
				if e, f := h.Free(ref(size, gen)), h.Free(ref(-1, gen)); e != api.ErrRange || f != api.ErrRange {
					t.Error("Free beyond the slots", size, gen, e, f)
				}
			}
		}
	}
}

// Each generation follows the one before it, up to the last one, after which the slot is retired.
func TestFreeRetires(t *testing.T) {
	for back := range uint32(4) {
		first := last - back
		h, p := made(t, 2, first)
		makes(t, h, p, 0, true)
		for gen := uint64(first); gen <= end; gen++ {
			r := makes(t, h, p, 3, false)
			if r != ref(1, uint32(gen)) {
				t.Fatal("Make", r, "want", gen)
			}
			frees(t, h, p, r)
			left := 1
			if gen == end {
				left = 0
			}
			if h.Left() != left {
				t.Error("Left", h.Left(), "after", gen)
			}
			is(t, h, p)
		}
		// For ever, also when other slots become free.
		for range 3 {
			makes(t, h, p, 1, false)
			frees(t, h, p, ref(1, last), ref(1, 0), ref(1, 1), ref(0, uint32(p[0].gen)))
			is(t, h, p)
		}
		for _, gen := range []uint32{0, 1, first, last} {
			if h.Has(ref(1, gen)) {
				t.Error("retired, but there is", gen)
			}
		}
	}
}

// P14.4

func TestLoadStoreObject(t *testing.T) {
	for n := range 5 {
		h, p := made(t, 4, 1)
		r := makes(t, h, p, n, false)
		other := makes(t, h, p, 2, false)
		handle := makes(t, h, p, 0, true)
		for i := range n {
			before := none
			for _, v := range []api.Ref{other, handle, r, r, none, none, other, handle} {
				if was, e := h.Store(r, i, v); was != before || e != api.OK {
					t.Errorf("Store(%v, %d, %v) = %v, %d, want %v", r, i, v, was, e, before)
				}
				if got, e := h.Load(r, i); got != v || e != api.OK {
					t.Errorf("Load(%v, %d) = %v, %d, want %v", r, i, got, e, v)
				}
				if o, e := h.Object(r); o.N != n || o.Handle || o.Fields[i] != v || e != api.OK {
					t.Errorf("Object(%v) = %v, %d", r, o, e)
				}
				p[0].fields[i] = v
				is(t, h, p)
				before = v
			}
		}
		has(t, h, p)
	}
}

// An object has the fields from 0 to their number less 1, and a handle has none.
func TestFieldsThatAreNot(t *testing.T) {
	h, p := made(t, 8, 7)
	for n := range 5 {
		makes(t, h, p, n, false)
	}
	makes(t, h, p, 0, true)
	for _, r := range p.all() {
		n := p[r.Slot].n
		for _, i := range append([]int{n, n + 1, n + 256, 1<<32 + n - 1}, noIndexes...) {
			if v, e := h.Load(r, i); v != none || e != api.ErrRange {
				t.Errorf("Load(%v, %d) = %v, %d", r, i, v, e)
			}
			// The field comes before the name that is to be stored, right or wrong.
			for _, v := range slices.Concat([]api.Ref{none}, p.all(), []api.Ref{ref(0, 1), ref(6, 7), ref(8, 7), ref(-1, 7), ref(256, 1), ref(1, 0)}) {
				if was, e := h.Store(r, i, v); was != none || e != api.ErrRange {
					t.Errorf("Store(%v, %d, %v) = %v, %d", r, i, v, was, e)
				}
			}
		}
	}
	has(t, h, p)
}

// What is wrong with the name of the object comes before all else.
func TestNamesThatAreNot(t *testing.T) {
	h, p := mixed(t)
	for _, r := range names(p) {
		want := p.checked(r)
		if want == api.OK {
			continue
		}
		if o, e := h.Object(r); o != (fields.Object{}) || e != want {
			t.Errorf("Object(%v) = %v, %d, want %d", r, o, e, want)
		}
		for _, i := range append([]int{0, 1, 2, 3}, noIndexes...) {
			if v, e := h.Load(r, i); v != none || e != want {
				t.Errorf("Load(%v, %d) = %v, %d, want %d", r, i, v, e, want)
			}
			for _, v := range []api.Ref{none, r, ref(0, last), ref(1, last), ref(8, 1), ref(-1, 1), ref(3, last-1), ref(6, 0)} {
				if was, e := h.Store(r, i, v); was != none || e != want {
					t.Errorf("Store(%v, %d, %v) = %v, %d, want %d", r, i, v, was, e, want)
				}
			}
		}
	}
	has(t, h, p)
}

// What is stored is none, or the name of an object that is there: its error is that of the name, also if it could be no object's.
func TestStoreOfNames(t *testing.T) {
	h, p := mixed(t)
	refused := map[api.Errno]int{}
	for _, v := range names(p) {
		want := api.OK
		if v != none {
			want = p.checked(v)
		}
		for _, r := range []api.Ref{ref(0, last), ref(3, last-1), ref(4, last)} {
			for i := range p[r.Slot].n {
				c, q := h.Copy(), slices.Clone(p)
				was, e := c.Store(r, i, v)
				if e != want || e == api.OK && was != p[r.Slot].fields[i] || e != api.OK && was != none {
					t.Errorf("Store(%v, %d, %v) = %v, %d, want %d", r, i, v, was, e, want)
				}
				if e == api.OK {
					q[r.Slot].fields[i] = v
				}
				listed(t, c, q)
				refused[want]++
			}
		}
	}
	if refused[api.OK] == 0 || refused[api.ErrRange] == 0 || refused[api.ErrStale] == 0 {
		t.Error("not all of them:", refused)
	}
	listed(t, h, p)
}

// Only the zero reference is none: one with a generation 0 and another slot is not.
func TestStoreOfNone(t *testing.T) {
	h, p := filled(t, 3, 1)
	stores(t, h, p, ref(0, 1), 0, none)
	for slot, want := range map[int]api.Errno{1: api.ErrStale, 2: api.ErrStale, 3: api.ErrRange, -1: api.ErrRange, 256: api.ErrRange} {
		if was, e := h.Store(ref(0, 1), 1, ref(slot, 0)); was != none || e != want {
			t.Errorf("Store(.., {%d 0}) = %v, %d, want %d", slot, was, e, want)
		}
	}
	if was, e := h.Store(ref(0, 1), 1, ref(0, 2)); was != none || e != api.ErrStale {
		t.Error("Store", was, e)
	}
	// None is under no slot: it can be stored, also while the slot 0 is free or retired, but nothing can be stored into it.
	for _, first := range []uint32{1, last} {
		h, p := filled(t, 3, first)
		frees(t, h, p, ref(0, first))
		stores(t, h, p, ref(1, first), 0, none)
		stores(t, h, p, none, 0, ref(1, first))
		has(t, h, p)
	}
	has(t, h, p)
}

// An object that was returned is the caller's.
func TestObjectIsACopy(t *testing.T) {
	h, p := filled(t, 4, 1)
	o, e := h.Object(ref(0, 1))
	if e != api.OK {
		t.Fatal(e)
	}
	o.N = 1
	o.Handle = true
	o.Fields[0], o.Fields[3] = ref(3, 9), none
	has(t, h, p)
	o, _ = h.Object(ref(0, 1))
	before := o
	stores(t, h, p, ref(0, 1), 0, ref(2, 1))
	stores(t, h, p, ref(0, 1), 1, none)
	frees(t, h, p, ref(0, 1))
	makes(t, h, p, 1, false)
	if o != before {
		t.Error("the object has become", o, "from", before)
	}
}

// P14.5

func TestHas(t *testing.T) {
	h, p := mixed(t)
	there := 0
	for _, r := range names(p) {
		want := p.checked(r) == api.OK
		if has := h.Has(r); has != want {
			t.Errorf("Has(%v) = %t", r, has)
		}
		if want {
			there++
		}
	}
	if there < 4 {
		t.Error("there are only", there)
	}
	empty, q := made(t, 256, 1)
	for _, r := range names(q) {
		if empty.Has(r) {
			t.Error("Has", r)
		}
	}
}

// Any subset of the slots may have objects.
func TestSubsets(t *testing.T) {
	for subset := range 1 << 7 {
		for _, first := range []uint32{6, last} {
			h, p := filled(t, 7, first)
			var want []api.Ref
			for i := range 7 {
				if subset>>i&1 == 0 {
					frees(t, h, p, ref(i, first))
				} else {
					want = append(want, ref(i, first))
				}
			}
			left := 7 - len(want)
			if first == last {
				left = 0
			}
			if l := h.All(); !slices.Equal(l, want) || h.Len() != len(want) || h.Left() != left {
				t.Errorf("All %v, Len %d, Left %d, want %v, %d", l, h.Len(), h.Left(), want, left)
			}
			listed(t, h, p)
		}
	}
}

// Results are new memory: to write to them, or behind them, changes nothing.
func TestAllIsNewMemory(t *testing.T) {
	h, p := filled(t, 5, 1)
	for range 2 {
		a, b := h.All(), h.All()
		all := a[:cap(a)]
		for i := range all {
			all[i] = ref(77, 77)
		}
		if !slices.Equal(b, p.all()) {
			t.Error("All", b)
		}
		listed(t, h, p)
	}
	frees(t, h, p, ref(1, 1))
	listed(t, h, p)
}

// P14.6

// watched is a heap of which is noted what has happened to it.
type watched struct {
	*Heap
	size    int
	seen    map[api.Ref]bool
	held    []api.Ref
	over    []api.Ref
	retired int
}

func (w *watched) build(t *testing.T, n int) {
	room := w.Left()
	r, e := w.Make(n, n == 0)
	if (room > 0) != (e == api.OK) || e != api.OK && e != api.ErrFull {
		t.Fatal("Make", r, e, "Left:", room)
	}
	if e != api.OK {
		return
	}
	if w.seen[r] || w.Left() != room-1 {
		t.Fatal("Make returned", r, "again:", w.seen[r], "Left", room, w.Left())
	}
	w.seen[r] = true
	w.held = append(w.held, r)
}

func (w *watched) free(t *testing.T, i int) {
	r, room := w.held[i], w.Left()
	if e := w.Free(r); e != api.OK {
		t.Fatal("Free", r, e)
	}
	w.held = slices.Delete(w.held, i, i+1)
	w.over = append(w.over, r)
	if r.Gen == last {
		w.retired++
	} else {
		room++
	}
	if w.Left() != room {
		t.Fatal("Left", w.Left(), "want", room)
	}
}

// check asks for all objects that are there, and for those that were freed: the latest ones, and others that a number says.
func (w *watched) check(t *testing.T, n int) {
	for _, r := range w.held {
		if !w.Has(r) {
			t.Fatal("Has not", r)
		}
	}
	for i, r := range w.over {
		if len(w.over)-i > 10 && (n+i)%64 != 0 {
			continue
		}
		_, e := w.Object(r)
		_, f := w.Load(r, 0)
		_, g := w.Store(r, 0, none)
		if e != api.ErrStale || f != api.ErrStale || g != api.ErrStale || w.Free(r) != api.ErrStale || w.Has(r) {
			t.Fatal("there again", r, e, f, g)
		}
	}
	if w.Len() != len(w.held) || w.Left() != w.size-len(w.held)-w.retired {
		t.Fatal("Len, Left", w.Len(), w.Left(), "held", len(w.held), "retired", w.retired)
	}
}

// No name is given twice, and no object is there again under one that was freed.
func TestNeverAgain(t *testing.T) {
	for _, size := range []int{1, 4, 64, 256} {
		for _, first := range []uint32{1, 1 << 31, last - 30} {
			h, _ := made(t, size, first)
			w := &watched{Heap: h, size: size, seen: map[api.Ref]bool{}}
			turns(3000, func(n uint64) {
				if n%2 == 0 || len(w.held) == 0 {
					w.build(t, int(n/64%5))
				} else {
					w.free(t, int(n/2)%len(w.held))
				}
				w.check(t, int(n%64))
			})
			if first == last-30 && size == 1 && (len(w.seen) != 31 || w.retired != 1 || h.Left() != 0) {
				t.Error("the slot is not retired:", len(w.seen), w.retired, h.Left())
			}
		}
	}
}

// All slots come to an end, one after the other.
func TestAllSlotsRetire(t *testing.T) {
	for _, size := range []int{1, 3, 256} {
		h, _ := made(t, size, last-3)
		w := &watched{Heap: h, size: size, seen: map[api.Ref]bool{}}
		for h.Left() > 0 || h.Len() > 0 {
			for h.Left() > 0 {
				w.build(t, len(w.seen)%5)
			}
			w.check(t, 0)
			for len(w.held) > 0 {
				w.free(t, len(w.seen)%len(w.held))
			}
			w.check(t, 1)
		}
		w.build(t, 1)
		if len(w.seen) != 4*size || w.retired != size {
			t.Error("New", size, "made", len(w.seen), "retired", w.retired)
		}
	}
}

// Many generations are no others than few.
func TestManyGenerations(t *testing.T) {
	for _, first := range []uint32{1, 65_000, 1<<31 - 35_000, last - 70_000} {
		h, p := made(t, 2, first)
		makes(t, h, p, 4, false)
		stores(t, h, p, ref(0, first), 2, ref(0, first))
		for k := range uint32(70_000) {
			if r, e := h.Make(1, false); r != ref(1, first+k) || e != api.OK || h.Free(r) != api.OK || h.Has(r) {
				t.Fatal("Make", first, k, r, e)
			}
		}
		p[1].gen += 70_000
		has(t, h, p)
	}
}

// P14.7

// Each field is changed beside all others, which stay as they are.
func TestOtherFieldsAreLeft(t *testing.T) {
	for _, size := range []int{1, 2, 7, 256} {
		for slot := range size {
			h, p := filled(t, size, 1)
			r := ref(slot, 1)
			for i := range p[slot].n {
				for _, v := range []api.Ref{ref(size-1, 1), none, r} {
					stores(t, h, p, r, i, v)
					if size < 256 {
						listed(t, h, p)
					}
				}
			}
			listed(t, h, p)
		}
	}
}

// A field keeps a name when the object is freed, when its slot has another object, and when it is retired.
func TestFieldsKeepNames(t *testing.T) {
	for _, first := range []uint32{1, last - 1, last} {
		h, p := made(t, 3, first)
		r := makes(t, h, p, 4, false)
		gone := makes(t, h, p, 2, false)
		stores(t, h, p, r, 1, gone)
		stores(t, h, p, gone, 0, r)
		stores(t, h, p, r, 2, r)
		frees(t, h, p, gone)
		holds := func() {
			t.Helper()
			for i, want := range []api.Ref{none, gone, r, none} {
				if v, e := h.Load(r, i); v != want || e != api.OK {
					t.Errorf("Load(%v, %d) = %v, %d, want %v", r, i, v, e, want)
				}
			}
			if o, e := h.Object(r); o != (fields.Object{N: 4, Fields: [4]api.Ref{none, gone, r, none}}) || e != api.OK {
				t.Errorf("Object(%v) = %v, %d", r, o, e)
			}
			has(t, h, p)
		}
		holds()
		for h.Left() > 1 {
			next := makes(t, h, p, 3, false)
			holds()
			if p[1].there {
				stores(t, h, p, next, 1, next)
			}
			frees(t, h, p, next)
			holds()
			if next.Gen > first+5 {
				break
			}
		}
		// The name is no one to be stored any more, but the field can be stored into.
		stores(t, h, p, r, 0, gone)
		holds()
		stores(t, h, p, r, 1, none)
		stores(t, h, p, r, 1, gone)
		has(t, h, p)
	}
}

// P14.8

func TestRoom(t *testing.T) {
	for _, size := range sizes {
		h, p := made(t, size, last-1)
		for left := size; left > 0; left-- {
			if h.Left() != left {
				t.Error("Left", h.Left(), "want", left)
			}
			makes(t, h, p, left%5, false)
		}
		for range 2 {
			if h.Left() != 0 {
				t.Error("Left", h.Left())
			}
			makes(t, h, p, 0, true)
		}
		for i := range size {
			frees(t, h, p, ref(i, last-1))
			if h.Left() != i+1 {
				t.Error("Left", h.Left(), "want", i+1)
			}
		}
		for range size {
			makes(t, h, p, 4, false)
		}
		for i := range size {
			// Retired slots are no room.
			frees(t, h, p, ref(i, last))
			if h.Left() != 0 || h.Len() != size-1-i {
				t.Error("Left, Len", h.Left(), h.Len())
			}
		}
		has(t, h, p)
	}
}

// P14.9

func TestRefusalsAndQuestionsChangeNothing(t *testing.T) {
	h, p := mixed(t)
	for range 2 {
		for _, n := range noCounts {
			h.Make(n, false)
			h.Make(n, true)
		}
		for n := 1; n <= 4; n++ {
			h.Make(n, true)
		}
		for _, r := range names(p) {
			h.Object(r)
			h.Has(r)
			for _, i := range append([]int{0, 1, 2, 3}, noIndexes...) {
				h.Load(r, i)
				h.Store(r, i, ref(1, last))
				h.Store(r, i, ref(8, 1))
			}
			for _, i := range noIndexes {
				h.Store(r, i, ref(0, last))
				h.Store(r, i, none)
			}
			if p.checked(r) != api.OK {
				h.Store(r, 0, ref(0, last))
				h.Free(r)
			}
			if p.checked(r) != api.OK && r != none {
				h.Store(ref(0, last), 0, r)
				h.Store(ref(3, last-1), 3, r)
			}
		}
		h.All()
		h.Len()
		h.Left()
		c := h.Copy()
		c.Make(3, false)
		c.Store(ref(0, last), 0, ref(3, last-1))
		c.Free(ref(3, last-1))
		listed(t, h, p)
	}
	has(t, h, p)
	makes(t, h, p, 3, false)
	makes(t, h, p, 2, false)
	makes(t, h, p, 1, false)
	// No slot is free now.
	has(t, h, p)
}

// TestShortSequences makes all sequences of a few changes, right ones and wrong ones, on heaps close to the last generation.
func TestShortSequences(t *testing.T) {
	for _, size := range []int{1, 2} {
		var next func(h *Heap, p plan, left int)
		next = func(h *Heap, p plan, left int) {
			listed(t, h, p)
			for i := range size + 1 {
				for _, g := range []uint32{last - 1, last} {
					isOf(t, h, p, ref(i, g))
				}
			}
			if left == 0 || t.Failed() {
				return
			}
			branch := func(change func(c *Heap, q plan)) {
				c, q := h.Copy(), slices.Clone(p)
				change(c, q)
				next(c, q, left-1)
			}
			branch(func(c *Heap, q plan) { makes(t, c, q, 1, false) })
			branch(func(c *Heap, q plan) { makes(t, c, q, 0, true) })
			for i := range size {
				for _, g := range []uint32{last - 1, last} {
					branch(func(c *Heap, q plan) { frees(t, c, q, ref(i, g)) })
					branch(func(c *Heap, q plan) { stores(t, c, q, ref(i, g), 0, ref(size-1, g)) })
				}
			}
			branch(func(c *Heap, q plan) { stores(t, c, q, ref(0, last), 0, ref(0, last-1)) })
			branch(func(c *Heap, q plan) { stores(t, c, q, ref(0, last-1), 0, none) })
			listed(t, h, p)
		}
		h, p := made(t, size, last-1)
		next(h, p, 4)
	}
}

func TestLongSequences(t *testing.T) {
	for _, size := range []int{1, 3, 64, 256} {
		for _, first := range []uint32{1, last - 20} {
			h, p := made(t, size, first)
			most, kept := 0, 0
			turns(3000, func(n uint64) {
				i := int(n / 16 % uint64(size+1))
				r := ref(i, first)
				if i < size {
					r.Gen = uint32(p[i].gen)
				}
				j := int(n / 16 / uint64(size+1) % uint64(size))
				v := ref(j, uint32(p[j].gen))
				switch f := int(n / 512 % 6); n % 16 {
				case 0:
					frees(t, h, p, ref(i, r.Gen-1))
				case 1, 2:
					frees(t, h, p, r)
				case 3:
					h, p = h.Copy(), slices.Clone(p)
				case 4:
					stores(t, h, p, r, f-1, ref(j, v.Gen-1))
				case 5:
					stores(t, h, p, r, f-1, none)
				case 6, 7, 8, 9, 10:
					stores(t, h, p, r, f-1, v)
				default:
					makes(t, h, p, f-1, n%16 == 11)
				}
				if size <= 3 || n%32 == 0 {
					listed(t, h, p)
				}
				if n%uint64(50+size) == 0 {
					is(t, h, p)
				}
				most = max(most, len(p.all()))
				kept = max(kept, staleNames(p))
				if t.Failed() {
					t.FailNow()
				}
			})
			has(t, h, p)
			if size > 1 && kept == 0 || most < min(size, 64) {
				t.Error("not all happened:", size, first, most, kept)
			}
		}
	}
}

// staleNames counts the fields that have names under which nothing is there any more.
func staleNames(p plan) int {
	count := 0
	for _, s := range p {
		for _, v := range s.fields {
			if v != none && p.checked(v) != api.OK {
				count++
			}
		}
	}
	return count
}

// R2

func TestHeapsThatAreNotValid(t *testing.T) {
	for name, h := range map[string]*Heap{"nil": nil, "zero": {}, "new": new(Heap)} {
		for range 2 {
			// ErrNil comes before what is wrong with the arguments.
			for _, n := range append([]int{0, 1, 2, 3, 4}, noCounts...) {
				for _, handle := range []bool{false, true} {
					if r, e := h.Make(n, handle); r != none || e != api.ErrNil {
						t.Error(name, "Make", n, handle, r, e)
					}
				}
			}
			for _, r := range names(planned(3, 1)) {
				if e := h.Free(r); e != api.ErrNil {
					t.Error(name, "Free", r, e)
				}
				if o, e := h.Object(r); o != (fields.Object{}) || e != api.ErrNil {
					t.Error(name, "Object", r, o, e)
				}
				if h.Has(r) {
					t.Error(name, "Has", r)
				}
				for _, i := range append([]int{0, 1}, noIndexes...) {
					if v, e := h.Load(r, i); v != none || e != api.ErrNil {
						t.Error(name, "Load", r, i, v, e)
					}
					for _, v := range []api.Ref{none, r, ref(0, 1), ref(-1, 1)} {
						if was, e := h.Store(r, i, v); was != none || e != api.ErrNil {
							t.Error(name, "Store", r, i, v, was, e)
						}
					}
				}
			}
			if l, n, left := h.All(), h.Len(), h.Left(); len(l) != 0 || n != 0 || left != 0 {
				t.Error(name, "All, Len, Left", l, n, left)
			}
			if c := h.Copy(); c != nil {
				t.Error(name, "Copy", c)
			}
		}
	}
}

// R8

func TestEqualCallsReturnEqualResults(t *testing.T) {
	for _, change := range changes(t) {
		a, p := mixed(t)
		change(a, p)
		for range 3 {
			b, q := mixed(t)
			c, r := b.Copy(), slices.Clone(q)
			change(b, q)
			change(c, r)
			if l := a.All(); !slices.Equal(l, b.All()) || !slices.Equal(l, c.All()) {
				t.Error("All:", l, b.All(), c.All())
			}
			has(t, b, p)
			has(t, c, p)
		}
	}
}

// The examples of the chapter.

func TestExamples(t *testing.T) {
	h, _ := made(t, 2, 1)
	is := func(call string, r api.Ref, e api.Errno, want api.Ref, wantE api.Errno) {
		t.Helper()
		if r != want || e != wantE {
			t.Error(call, r, e, "want", want, wantE)
		}
	}
	builds := func(n int, handle bool, want api.Ref, wantE api.Errno) {
		t.Helper()
		r, e := h.Make(n, handle)
		is("Make", r, e, want, wantE)
	}
	loads := func(r api.Ref, i int, want api.Ref, wantE api.Errno) {
		t.Helper()
		v, e := h.Load(r, i)
		is("Load", v, e, want, wantE)
	}
	stores := func(r api.Ref, i int, v, want api.Ref, wantE api.Errno) {
		t.Helper()
		was, e := h.Store(r, i, v)
		is("Store", was, e, want, wantE)
	}
	builds(2, false, ref(0, 1), api.OK)
	builds(0, true, ref(1, 1), api.OK)
	builds(1, false, none, api.ErrFull)
	if left := h.Left(); left != 0 {
		t.Error("Left", left)
	}
	stores(ref(0, 1), 0, ref(1, 1), none, api.OK)
	loads(ref(0, 1), 0, ref(1, 1), api.OK)
	loads(ref(0, 1), 2, none, api.ErrRange)
	loads(ref(1, 1), 0, none, api.ErrRange)
	if e := h.Free(ref(1, 1)); e != api.OK || h.Has(ref(1, 1)) {
		t.Error("Free", e, h.Has(ref(1, 1)))
	}
	loads(ref(0, 1), 0, ref(1, 1), api.OK)
	stores(ref(0, 1), 1, ref(1, 1), none, api.ErrStale)
	builds(1, false, ref(1, 2), api.OK)
	loads(ref(1, 2), 0, none, api.OK)
	loads(ref(1, 1), 0, none, api.ErrStale)
	loads(ref(2, 1), 0, none, api.ErrRange)
	stores(ref(0, 1), 0, none, ref(1, 1), api.OK)
	if l := h.All(); !slices.Equal(l, []api.Ref{ref(0, 1), ref(1, 2)}) {
		t.Error("All", l)
	}
	builds(5, false, none, api.ErrArg)
}
