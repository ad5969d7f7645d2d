package slots

import (
	"math"
	"slices"
	"testing"

	"estray/api"
)

const (
	last = api.MaxGen
	end  = uint64(last)
)

var (
	// sizes are the least and the greatest ones, and some between.
	sizes = []int{1, 2, 3, 64, 255, 256}
	// firsts are the first generations, the last ones, and some between.
	firsts = []uint32{1, 2, 7, 1 << 31, last - 1, last}
	// noSlots are numbers that no slot of any table has.
	noSlots = []int{math.MinInt, -1 << 32, -256, -1, 256, 257, 1 << 32, math.MaxInt}
)

// ref returns a slot in a generation.
func ref(slot int, gen uint32) api.Ref { return api.Ref{Slot: slot, Gen: gen} }

// place is what a slot has to be: it is retired if its generation is beyond the last one.
type place struct {
	gen   uint64
	taken bool
}

// plan is what a table has to be, written out a second time, in the words of the chapter.
type plan []place

func planned(size int, first uint32) plan {
	return slices.Repeat(plan{{gen: uint64(first)}}, size)
}

func (p place) free() bool    { return !p.taken && p.gen <= end }
func (p place) retired() bool { return p.gen > end }

func (p plan) take() (api.Ref, api.Errno) {
	i := slices.IndexFunc(p, place.free)
	if i < 0 {
		return api.Ref{}, api.ErrFull
	}
	p[i].taken = true
	return ref(i, uint32(p[i].gen)), api.OK
}

func (p plan) check(r api.Ref) api.Errno {
	if r.Slot < 0 || r.Slot >= len(p) {
		return api.ErrRange
	}
	if p[r.Slot] != (place{uint64(r.Gen), true}) {
		return api.ErrStale
	}
	return api.OK
}

func (p plan) give(r api.Ref) api.Errno {
	e := p.check(r)
	if e == api.OK {
		p[r.Slot] = place{gen: uint64(r.Gen) + 1}
	}
	return e
}

func (p plan) count(is func(place) bool) int {
	count := 0
	for _, slot := range p {
		if is(slot) {
			count++
		}
	}
	return count
}

func (p plan) listed() []api.Ref {
	var out []api.Ref
	for i, slot := range p {
		if slot.taken {
			out = append(out, ref(i, uint32(slot.gen)))
		}
	}
	return out
}

// is asks all questions about a table.
func is(t *testing.T, s *Table, p plan) {
	t.Helper()
	isCounted(t, s, p)
	for i, slot := range p {
		gen := uint32(min(slot.gen, end))
		if g, e := s.Gen(i); g != gen || e != api.OK {
			t.Error("Gen", i, g, e, "want", gen)
		}
		for _, g := range []uint32{0, 1, gen - 1, gen, gen + 1, last} {
			if e := s.Check(ref(i, g)); e != p.check(ref(i, g)) {
				t.Error("Check", i, g, e, "of", slot)
			}
		}
	}
	for _, i := range append([]int{len(p), len(p) + 1}, noSlots...) {
		if g, e := s.Gen(i); g != 0 || e != api.ErrRange {
			t.Error("Gen", i, g, e, "of", len(p))
		}
		for _, g := range []uint32{0, 1, last} {
			if e := s.Check(ref(i, g)); e != api.ErrRange {
				t.Error("Check", i, g, e, "of", len(p))
			}
		}
	}
}

// isCounted asks for the slots in each state.
func isCounted(t *testing.T, s *Table, p plan) {
	t.Helper()
	if n := s.Free(); n != p.count(place.free) {
		t.Error("Free", n, "want", p.count(place.free))
	}
	if n := s.Retired(); n != p.count(place.retired) {
		t.Error("Retired", n, "want", p.count(place.retired))
	}
	taken := p.listed()
	if n := s.Len(); n != len(taken) {
		t.Error("Len", n, "want", len(taken))
	}
	if l := s.Taken(); !slices.Equal(l, taken) {
		t.Error("Taken", l, "want", taken)
	}
}

// made returns a new table.
func made(t *testing.T, size int, first uint32) *Table {
	t.Helper()
	s, e := New(size, first)
	if e != api.OK || s == nil {
		t.Fatal("New", size, first, s, e)
	}
	return s
}

// takes takes slots of the table and of its plan, and returns them.
func takes(t *testing.T, s *Table, p plan, times int) []api.Ref {
	t.Helper()
	var out []api.Ref
	for range times {
		r, e := s.Take()
		want, wantE := p.take()
		if r != want || e != wantE {
			t.Error("Take", r, e, "want", want, wantE)
		}
		out = append(out, want)
	}
	return out
}

// gives gives slots back to the table and its plan.
func gives(t *testing.T, s *Table, p plan, l ...api.Ref) {
	t.Helper()
	for _, r := range l {
		if e, want := s.Give(r), p.give(r); e != want {
			t.Error("Give", r, e, "want", want)
		}
	}
}

// mixed returns a table, and its plan, with slots that are free, taken and retired, in their last generations but slot 4.
func mixed(t *testing.T) (*Table, plan) {
	t.Helper()
	s, p := made(t, 5, last-1), planned(5, last-1)
	takes(t, s, p, 4)
	gives(t, s, p, ref(1, last-1), ref(2, last-1), ref(0, last-1))
	takes(t, s, p, 2)
	gives(t, s, p, ref(1, last))
	if want := (plan{{end, true}, {end + 1, false}, {end, false}, {end - 1, true}, {end - 1, false}}); !slices.Equal(p, want) {
		t.Fatal(p)
	}
	return s, p
}

// P4.1

func TestNew(t *testing.T) {
	for _, size := range sizes {
		for _, first := range firsts {
			s, p := made(t, size, first), planned(size, first)
			is(t, s, p)
			takes(t, s, p, size+1)
			is(t, s, p)
		}
	}
}

func TestNewRefuses(t *testing.T) {
	for _, size := range []int{0, -1, -256, 257, 258, 512, math.MaxInt, math.MinInt, 1 << 32, 1<<32 + 1} {
		for _, first := range append([]uint32{0}, firsts...) {
			if s, e := New(size, first); s != nil || e != api.ErrArg {
				t.Error("New", size, first, s, e)
			}
		}
	}
	for _, size := range sizes {
		if s, e := New(size, 0); s != nil || e != api.ErrArg {
			t.Error("New", size, 0, s, e)
		}
	}
}

func TestNewTablesAreIndependent(t *testing.T) {
	a, b := made(t, 3, 5), made(t, 3, 5)
	p := planned(3, 5)
	takes(t, a, p, 2)
	gives(t, a, p, ref(0, 5))
	is(t, a, p)
	is(t, b, planned(3, 5))
}

func TestCopy(t *testing.T) {
	for _, size := range sizes {
		for _, first := range firsts {
			s, p := made(t, size, first), planned(size, first)
			is(t, s.Copy(), p)
			l := takes(t, s, p, (size+1)/2)
			gives(t, s, p, l[0])
			c := s.Copy()
			if c == s {
				t.Error("the copy is the table itself")
			}
			is(t, c, p)
			is(t, c.Copy(), p)
			is(t, s, p)
			// The copy goes on as the table would.
			takes(t, c, p, size+1)
			is(t, c, p)
		}
	}
	s, p := mixed(t)
	is(t, s.Copy(), p)
}

func TestCopyIsIndependent(t *testing.T) {
	for name, change := range map[string]func(s *Table, p plan){
		"Take":        func(s *Table, p plan) { takes(t, s, p, 1) },
		"Give":        func(s *Table, p plan) { gives(t, s, p, ref(3, last-1)) },
		"Give last":   func(s *Table, p plan) { gives(t, s, p, ref(0, last)) },
		"all of them": func(s *Table, p plan) { takes(t, s, p, 3); gives(t, s, p, p.listed()...) },
	} {
		for _, changesCopy := range []bool{false, true} {
			changed, p := mixed(t)
			left, q := changed.Copy(), slices.Clone(p)
			if changesCopy {
				changed, left = left, changed
			}
			if change(changed, p); slices.Equal(p, q) {
				t.Error(name, "changes nothing")
			}
			is(t, changed, p)
			is(t, left, q)
		}
	}
}

// P4.2

func TestTake(t *testing.T) {
	s := made(t, 4, 9)
	for i := range 4 {
		if r, e := s.Take(); r != ref(i, 9) || e != api.OK {
			t.Error("Take", i, r, e)
		}
	}
	for range 3 {
		if r, e := s.Take(); r != (api.Ref{}) || e != api.ErrFull {
			t.Error("Take", r, e)
		}
	}
}

func TestTakeReturnsTheSmallest(t *testing.T) {
	// Whatever slots are given back, in whatever order, they are taken again by their numbers.
	for _, back := range [][]int{{0}, {3}, {0, 3}, {3, 0}, {2, 1}, {1, 3, 2}, {3, 2, 1, 0}, {2, 3, 0, 1}} {
		s := made(t, 4, 9)
		takes(t, s, planned(4, 9), 4)
		for _, i := range back {
			if e := s.Give(ref(i, 9)); e != api.OK {
				t.Error("Give", i, e)
			}
		}
		for _, i := range slices.Sorted(slices.Values(back)) {
			if r, e := s.Take(); r != ref(i, 10) || e != api.OK {
				t.Error("Take", r, e, "want", i, "of", back)
			}
		}
		if r, e := s.Take(); r != (api.Ref{}) || e != api.ErrFull {
			t.Error("Take", r, e)
		}
	}
}

func TestTakeOfTheGreatestTable(t *testing.T) {
	s := made(t, 256, 1)
	takes(t, s, planned(256, 1), 256)
	for _, i := range []int{255, 0, 128} {
		if e := s.Give(ref(i, 1)); e != api.OK {
			t.Error(e)
		}
		if r, e := s.Take(); r != ref(i, 2) || e != api.OK {
			t.Error("Take", r, e, "want", i)
		}
	}
	if r, e := s.Take(); r != (api.Ref{}) || e != api.ErrFull {
		t.Error("Take", r, e)
	}
}

func TestTakeWithoutRetired(t *testing.T) {
	s, p := mixed(t)
	for _, want := range []api.Ref{ref(2, last), ref(4, last-1)} {
		if r, e := s.Take(); r != want || e != api.OK {
			t.Error("Take", r, e, "want", want)
		}
	}
	if r, e := s.Take(); r != (api.Ref{}) || e != api.ErrFull {
		t.Error("Take", r, e)
	}
	p[2].taken, p[4].taken = true, true
	is(t, s, p)

	s = made(t, 1, last)
	if r, e := s.Take(); r != ref(0, last) || e != api.OK {
		t.Error("Take", r, e)
	}
	if e := s.Give(ref(0, last)); e != api.OK {
		t.Error("Give", e)
	}
	if r, e := s.Take(); r != (api.Ref{}) || e != api.ErrFull {
		t.Error("Take", r, e)
	}
}

// P4.3

func TestCheckAndGive(t *testing.T) {
	for _, x := range []struct {
		r    api.Ref
		want api.Errno
	}{
		{ref(-1, last), api.ErrRange},
		{ref(-1, 0), api.ErrRange},
		{ref(5, last), api.ErrRange},
		{ref(5, 0), api.ErrRange},
		{ref(255, last-1), api.ErrRange},
		{ref(256, last-1), api.ErrRange},
		{ref(math.MaxInt, last), api.ErrRange},
		{ref(math.MinInt, last), api.ErrRange},
		{ref(1<<32, last), api.ErrRange},
		{ref(1<<32+3, last-1), api.ErrRange},
		// Taken, in the last generation.
		{ref(0, last), api.OK},
		{ref(0, last-1), api.ErrStale},
		{ref(0, 0), api.ErrStale},
		{ref(0, 1), api.ErrStale},
		// Retired.
		{ref(1, last), api.ErrStale},
		{ref(1, last-1), api.ErrStale},
		{ref(1, 0), api.ErrStale},
		// Free, after the first generation.
		{ref(2, last), api.ErrStale},
		{ref(2, last-1), api.ErrStale},
		{ref(2, 0), api.ErrStale},
		// Taken, in the first generation.
		{ref(3, last-1), api.OK},
		{ref(3, last), api.ErrStale},
		{ref(3, last-2), api.ErrStale},
		{ref(3, 0), api.ErrStale},
		// Free, and never taken.
		{ref(4, last-1), api.ErrStale},
		{ref(4, last), api.ErrStale},
		{ref(4, 0), api.ErrStale},
	} {
		s, p := mixed(t)
		if e := s.Check(x.r); e != x.want {
			t.Error("Check", x.r, e, "want", x.want)
		}
		is(t, s, p)
		if e := s.Give(x.r); e != x.want {
			t.Error("Give", x.r, e, "want", x.want)
		}
		if x.want == api.OK {
			p[x.r.Slot] = place{gen: uint64(x.r.Gen) + 1}
		}
		is(t, s, p)
	}
}

func TestGive(t *testing.T) {
	for _, size := range sizes {
		for _, first := range firsts {
			s, p := made(t, size, first), planned(size, first)
			takes(t, s, p, size)
			i := size / 2
			if e := s.Give(ref(i, first)); e != api.OK {
				t.Error("Give", size, first, e)
			}
			if first == last {
				// There is no next generation.
				p[i] = place{gen: end + 1}
				is(t, s, p)
				continue
			}
			p[i] = place{gen: uint64(first) + 1}
			is(t, s, p)
			// A slot that was given back is taken again, in its next generation.
			if r, e := s.Take(); r != ref(i, first+1) || e != api.OK {
				t.Error("Take", r, e)
			}
			p[i].taken = true
			is(t, s, p)
		}
	}
}

func TestGiveGrowsToTheLast(t *testing.T) {
	s := made(t, 1, last-20)
	for gen := last - 20; ; gen++ {
		if r, e := s.Take(); r != ref(0, gen) || e != api.OK {
			t.Fatal("Take", r, e)
		}
		if e := s.Give(ref(0, gen)); e != api.OK {
			t.Fatal("Give", gen, e)
		}
		if gen == last {
			break
		}
	}
	is(t, s, plan{{gen: end + 1}})
}

// P4.4

func TestGen(t *testing.T) {
	s, _ := mixed(t)
	for i, want := range []uint32{last, last, last, last - 1, last - 1} {
		if g, e := s.Gen(i); g != want || e != api.OK {
			t.Error("Gen", i, g, e)
		}
	}
	for _, i := range append([]int{5, 6, 255}, noSlots...) {
		if g, e := s.Gen(i); g != 0 || e != api.ErrRange {
			t.Error("Gen", i, g, e)
		}
	}
	for _, size := range sizes {
		s := made(t, size, 7)
		for i, want := range map[int]api.Errno{-1: api.ErrRange, 0: api.OK, size - 1: api.OK, size: api.ErrRange} {
			if g, e := s.Gen(i); e != want || (e == api.OK) != (g == 7) || e != api.OK && g != 0 {
				t.Error("Gen", size, i, g, e)
			}
		}
	}
}

func TestGenIsThatOfTake(t *testing.T) {
	for _, first := range firsts {
		s := made(t, 1, first)
		for n := range uint64(3) {
			// Free, and then taken; retired at the end.
			want := uint32(min(uint64(first)+n, end))
			if g, e := s.Gen(0); g != want || e != api.OK {
				t.Error("Gen", first, n, g, e)
			}
			r, e := s.Take()
			if e == api.ErrFull {
				continue
			}
			if g, f := s.Gen(0); g != want || r.Gen != want || e != api.OK || f != api.OK {
				t.Error("Take, Gen", first, n, r, g, e, f)
			}
			if e := s.Give(r); e != api.OK {
				t.Error("Give", e)
			}
		}
	}
}

// P4.5

func TestCounts(t *testing.T) {
	s, _ := mixed(t)
	if s.Retired() != 1 || s.Free() != 2 || s.Len() != 2 {
		t.Error("Retired, Free, Len:", s.Retired(), s.Free(), s.Len())
	}
	if l := s.Taken(); !slices.Equal(l, []api.Ref{ref(0, last), ref(3, last-1)}) {
		t.Error("Taken", l)
	}
	for _, size := range sizes {
		s, p := made(t, size, last), planned(size, last)
		isCounted(t, s, p)
		for range size {
			takes(t, s, p, 1)
			isCounted(t, s, p)
		}
		// Backwards, so that slots in all states are mixed.
		for _, r := range slices.Backward(p.listed()) {
			gives(t, s, p, r)
			isCounted(t, s, p)
		}
		if s.Retired() != size || s.Free() != 0 || s.Len() != 0 || len(s.Taken()) != 0 {
			t.Error("Retired, Free, Len, Taken:", s.Retired(), s.Free(), s.Len(), s.Taken())
		}
	}
}

func TestTakenIsOrdered(t *testing.T) {
	s, p := made(t, 4, 3), planned(4, 3)
	takes(t, s, p, 4)
	gives(t, s, p, ref(2, 3), ref(0, 3))
	takes(t, s, p, 2)
	if l := s.Taken(); !slices.Equal(l, []api.Ref{ref(0, 4), ref(1, 3), ref(2, 4), ref(3, 3)}) {
		t.Error("Taken", l)
	}
}

func TestTakenIsNewMemory(t *testing.T) {
	s, p := mixed(t)
	a, b := s.Taken(), s.Taken()
	a[0], a[1] = ref(4, 1), ref(4, 2)
	_ = append(a[:1], ref(4, 3))
	if !slices.Equal(b, p.listed()) {
		t.Error("Taken", b)
	}
	is(t, s, p)
}

// P4.6

// turns makes calls on a table, chosen by a rule that repeats only after many of them.
func turns(times int, call func(n uint64)) {
	n := uint64(1)
	for range times {
		n = n*6364136223846793005 + 1442695040888963407
		call(n >> 33)
	}
}

func TestNeverAgain(t *testing.T) {
	for _, first := range []uint32{1, last - 30} {
		s, p := made(t, 4, first), planned(4, first)
		held, seen := []api.Ref{}, map[api.Ref]bool{}
		over := []api.Ref{}
		turns(2000, func(n uint64) {
			if n%2 == 0 || len(held) == 0 {
				r, e := s.Take()
				if want, wantE := p.take(); r != want || e != wantE {
					t.Fatal("Take", r, e, "want", want, wantE)
				} else if e == api.ErrFull {
					return
				}
				if seen[r] {
					t.Fatal("Take returned again", r)
				}
				seen[r] = true
				held = append(held, r)
			} else {
				i := int(n/2) % len(held)
				gives(t, s, p, held[i])
				over = append(over, held[i])
				held = slices.Delete(held, i, i+1)
			}
			for _, r := range over {
				if e, f := s.Check(r), s.Give(r); e != api.ErrStale || f != api.ErrStale {
					t.Fatal("Check, Give", r, e, f)
				}
			}
		})
		is(t, s, p)
		if first != 1 && s.Retired() != 4 {
			t.Error("Retired", s.Retired())
		}
	}
}

// P4.7

func TestNeverSmaller(t *testing.T) {
	s := made(t, 5, last-12)
	gens := make([]uint32, 5)
	gone := map[int]bool{}
	retired := 0
	turns(2000, func(n uint64) {
		var given api.Ref
		if taken := s.Taken(); n%2 == 0 || len(taken) == 0 {
			if r, e := s.Take(); e == api.OK && gone[r.Slot] {
				t.Fatal("Take", r, "of a retired slot")
			}
		} else {
			given = taken[int(n/2)%len(taken)]
			if e := s.Give(given); e != api.OK {
				t.Fatal("Give", given, e)
			}
		}
		for i := range gens {
			g, e := s.Gen(i)
			if g < gens[i] || e != api.OK {
				t.Fatal("Gen", i, g, e, "was", gens[i])
			}
			gens[i] = g
		}
		if s.Free()+s.Len()+s.Retired() != 5 || len(s.Taken()) != s.Len() {
			t.Fatal("Free, Len, Retired:", s.Free(), s.Len(), s.Retired())
		}
		if given.Gen == last {
			gone[given.Slot] = true
			retired++
		}
		if s.Retired() != retired {
			t.Fatal("Retired", s.Retired(), "want", retired)
		}
	})
	if retired != 5 {
		t.Error("retired:", retired)
	}
}

// P4.8

func TestOthersAreLeft(t *testing.T) {
	for i := range 5 {
		s, p := mixed(t)
		before := p[i]
		if before.taken {
			gives(t, s, p, ref(i, uint32(before.gen)))
			before.gen, before.taken = before.gen+1, false
		} else if before.free() {
			// Only the free slot with the smallest number can be taken: those ahead of it are taken first.
			for !p[i].taken {
				takes(t, s, p, 1)
			}
			before.taken = true
		}
		if p[i] != before {
			t.Error(i, p[i], before)
		}
		is(t, s, p)
	}
	// Slots on both sides of the one that is given back and taken again.
	s, p := made(t, 256, 1), planned(256, 1)
	takes(t, s, p, 256)
	for _, i := range []int{0, 1, 127, 254, 255} {
		gives(t, s, p, ref(i, 1))
		is(t, s, p)
		takes(t, s, p, 1)
		is(t, s, p)
	}
}

func TestRefusalsAndQuestionsChangeNothing(t *testing.T) {
	s, p := mixed(t)
	for range 2 {
		s.Gen(0)
		s.Gen(-1)
		s.Gen(5)
		s.Retired()
		s.Free()
		s.Taken()
		s.Len()
		s.Copy()
		for i := -1; i <= 5; i++ {
			for _, g := range []uint32{0, 1, last - 1, last} {
				s.Check(ref(i, g))
				if p.check(ref(i, g)) != api.OK {
					gives(t, s, p, ref(i, g))
				}
				is(t, s, p)
			}
		}
	}
	takes(t, s, p, 2)
	takes(t, s, p, 2)
	is(t, s, p)
}

// TestShortSequences makes all sequences of a few changes, right ones and wrong ones, on a table close to its end.
func TestShortSequences(t *testing.T) {
	var all []api.Ref
	for slot := range 2 {
		for _, g := range []uint32{last - 1, last} {
			all = append(all, ref(slot, g))
		}
	}
	var next func(s *Table, p plan, left int)
	next = func(s *Table, p plan, left int) {
		is(t, s, p)
		if left == 0 || t.Failed() {
			return
		}
		c, q := s.Copy(), slices.Clone(p)
		takes(t, c, q, 1)
		next(c, q, left-1)
		for _, r := range all {
			c, q := s.Copy(), slices.Clone(p)
			gives(t, c, q, r)
			next(c, q, left-1)
		}
		is(t, s, p)
	}
	next(made(t, 2, last-1), planned(2, last-1), 6)
}

// R2

func TestNotValid(t *testing.T) {
	for name, s := range map[string]*Table{"nil": nil, "zero": {}, "new": new(Table)} {
		for _, r := range []api.Ref{{}, ref(0, 1), ref(-1, 0), ref(255, last), ref(256, 1)} {
			if e := s.Give(r); e != api.ErrNil {
				t.Error(name, "Give", r, e)
			}
			if e := s.Check(r); e != api.ErrNil {
				t.Error(name, "Check", r, e)
			}
			if g, e := s.Gen(r.Slot); g != 0 || e != api.ErrNil {
				t.Error(name, "Gen", r.Slot, g, e)
			}
		}
		if r, e := s.Take(); r != (api.Ref{}) || e != api.ErrNil {
			t.Error(name, "Take", r, e)
		}
		if s.Retired() != 0 || s.Free() != 0 || s.Len() != 0 || len(s.Taken()) != 0 {
			t.Error(name, "Retired, Free, Len, Taken:", s.Retired(), s.Free(), s.Len(), s.Taken())
		}
		if c := s.Copy(); c != nil {
			t.Error(name, "Copy", c)
		}
		if s != nil && *s != (Table{}) {
			t.Error(name, "was changed")
		}
	}
}

// The examples of the chapter.

func TestExamples(t *testing.T) {
	s := made(t, 2, 4294967294)
	taken := func(want api.Ref, wantE api.Errno) {
		t.Helper()
		if r, e := s.Take(); r != want || e != wantE {
			t.Error("Take", r, e, "want", want, wantE)
		}
	}
	given := func(r api.Ref) {
		t.Helper()
		if e := s.Give(r); e != api.OK {
			t.Error("Give", r, e)
		}
	}
	taken(ref(0, 4294967294), api.OK)
	taken(ref(1, 4294967294), api.OK)
	taken(api.Ref{}, api.ErrFull)
	given(ref(0, 4294967294))
	if g, e := s.Gen(0); g != 4294967295 || e != api.OK {
		t.Error("Gen", g, e)
	}
	taken(ref(0, 4294967295), api.OK)
	if e, f := s.Check(ref(0, 4294967294)), s.Check(ref(2, 1)); e != api.ErrStale || f != api.ErrRange {
		t.Error("Check", e, f)
	}
	given(ref(0, 4294967295))
	if s.Retired() != 1 {
		t.Error("Retired", s.Retired())
	}
	taken(api.Ref{}, api.ErrFull)
	if l := s.Taken(); !slices.Equal(l, []api.Ref{ref(1, 4294967294)}) || s.Free() != 0 || s.Len() != 1 {
		t.Error("Taken, Free, Len:", l, s.Free(), s.Len())
	}
}
