package colour

import (
	"math"
	"slices"
	"testing"

	"estray/api"
)

// The colours, by the numbers of the chapter.
const (
	white = 0
	grey  = 1
	black = 2
)

var (
	// sizes are the least and the greatest ones, and some between.
	sizes = []int{1, 2, 3, 4, 63, 64, 65, 128, 255, 256}
	// noSizes are none; some would be sizes in fewer bits.
	noSizes = []int{math.MinInt, math.MinInt + 1, -1<<32 + 1, -256, -2, -1, 0, 257, 258, 512, 1 << 16, 1 << 32, 1<<32 + 1, 1<<32 + 256, math.MaxInt}
	// noSlots are those of no paint; some would be slots in fewer bits.
	noSlots = []int{math.MinInt, math.MinInt + 1, -1 << 32, -256, -255, -2, -1, 256, 257, 512, 1 << 16, 1 << 32, 1<<32 + 1, 1 << 40, math.MaxInt}
)

// plan is what a paint has to be: the colours of the slots, and the chapter's words, written out a second time.
type plan []int

func planned(size int) plan { return make(plan, size) }

func (p plan) check(slot int) api.Errno {
	if slot < 0 || slot >= len(p) {
		return api.ErrRange
	}
	return api.OK
}

func (p plan) of(slot int) (int, api.Errno) {
	if e := p.check(slot); e != api.OK {
		return 0, e
	}
	return p[slot], api.OK
}

func (p plan) shade(slot int) (bool, api.Errno) {
	if e := p.check(slot); e != api.OK {
		return false, e
	}
	if p[slot] != white {
		return false, api.OK
	}
	p[slot] = grey
	return true, api.OK
}

func (p plan) blacken(slot int) api.Errno {
	if e := p.check(slot); e != api.OK {
		return e
	}
	if p[slot] != grey {
		return api.ErrState
	}
	p[slot] = black
	return api.OK
}

func (p plan) born(slot int) api.Errno {
	if e := p.check(slot); e != api.OK {
		return e
	}
	if p[slot] != white {
		return api.ErrState
	}
	p[slot] = black
	return api.OK
}

func (p plan) bleach(slot int) api.Errno {
	if e := p.check(slot); e != api.OK {
		return e
	}
	p[slot] = white
	return api.OK
}

func (p plan) grey(from int) (int, bool) {
	for slot, c := range p {
		if c == grey && slot >= from {
			return slot, true
		}
	}
	return 0, false
}

func (p plan) count(colour int) int {
	n := 0
	for _, c := range p {
		if c == colour {
			n++
		}
	}
	return n
}

// change is a call that may change a slot, on a paint or on its plan; its results are a truth and an error.
type change struct {
	name  string
	paint func(p *Paint, slot int) (bool, api.Errno)
	plan  func(p plan, slot int) (bool, api.Errno)
}

// only makes a call that returns an error alone one that returns a truth, too, which is false.
func only[T any](call func(T, int) api.Errno) func(T, int) (bool, api.Errno) {
	return func(x T, slot int) (bool, api.Errno) { return false, call(x, slot) }
}

// The changes; Clear, which has no slot, is not among them.
var (
	shade   = change{"Shade", (*Paint).Shade, plan.shade}
	blacken = change{"Blacken", only((*Paint).Blacken), only(plan.blacken)}
	born    = change{"Born", only((*Paint).Born), only(plan.born)}
	bleach  = change{"Bleach", only((*Paint).Bleach), only(plan.bleach)}
	changes = []change{shade, blacken, born, bleach}
)

// does makes a change of the paint and of its plan, and holds the results against each other.
func (x change) does(t *testing.T, p *Paint, q plan, slot int) {
	t.Helper()
	want, wantE := x.plan(q, slot)
	if is, e := x.paint(p, slot); is != want || e != wantE {
		t.Error(x.name, slot, is, e, "want", want, wantE)
	}
}

// made returns a new paint.
func made(t *testing.T, size int) *Paint {
	t.Helper()
	p, e := New(size)
	if e != api.OK || p == nil {
		t.Fatal("New", size, p, e)
	}
	return p
}

// painted returns a paint with these colours, and its plan.
func painted(t *testing.T, colours ...int) (*Paint, plan) {
	t.Helper()
	p := made(t, len(colours))
	for slot, c := range colours {
		if c == white {
			continue
		}
		if is, e := p.Shade(slot); !is || e != api.OK {
			t.Fatal("Shade", slot, is, e)
		}
		if c == grey {
			continue
		}
		if e := p.Blacken(slot); e != api.OK {
			t.Fatal("Blacken", slot, e)
		}
	}
	return p, slices.Clone(colours)
}

// mixed returns a paint with slots of all colours, and its plan.
func mixed(t *testing.T) (*Paint, plan) {
	t.Helper()
	return painted(t, black, white, grey, white, grey, black)
}

// mixtures returns all ways to colour so many slots.
func mixtures(size int) [][]int {
	out := [][]int{nil}
	for range size {
		var longer [][]int
		for _, m := range out {
			for _, c := range []int{white, grey, black} {
				longer = append(longer, append(slices.Clone(m), c))
			}
		}
		out = longer
	}
	return out
}

// is asks all questions about a paint.
func is(t *testing.T, p *Paint, q plan) {
	t.Helper()
	isCounted(t, p, q)
	slots := append([]int{len(q), len(q) + 1, 255}, noSlots...)
	for slot := range q {
		slots = append(slots, slot)
	}
	for _, slot := range slots {
		want, wantE := q.of(slot)
		if c, e := p.Of(slot); c != want || e != wantE {
			t.Error("Of", slot, c, e, "want", want, wantE)
		}
		first, there := q.grey(slot)
		if s, is := p.Grey(slot); s != first || is != there {
			t.Error("Grey", slot, s, is, "want", first, there)
		}
	}
}

// isCounted asks for the counts, and holds them against each other and against Grey.
func isCounted(t *testing.T, p *Paint, q plan) {
	t.Helper()
	w, g, b := p.Counts()
	if want := [3]int{q.count(white), q.count(grey), q.count(black)}; [3]int{w, g, b} != want {
		t.Error("Counts", w, g, b, "want", want)
	}
	if w+g+b != len(q) {
		t.Error("Counts", w, g, b, "are not together", len(q))
	}
	if _, is := p.Grey(0); is != (g > 0) {
		t.Error("Counts", w, g, b, "but Grey says", is)
	}
}

func TestColours(t *testing.T) {
	if White != 0 || Grey != 1 || Black != 2 {
		t.Error(White, Grey, Black)
	}
}

// P15.1

func TestNew(t *testing.T) {
	for size := 1; size <= 256; size++ {
		is(t, made(t, size), planned(size))
	}
	for _, size := range noSizes {
		if p, e := New(size); p != nil || e != api.ErrArg {
			t.Error("New", size, p, e)
		}
	}
}

func TestNewPaintsAreIndependent(t *testing.T) {
	a, b, q := made(t, 4), made(t, 4), planned(4)
	for i, x := range changes {
		x.does(t, a, q, i)
		x.does(t, a, q, 0)
	}
	is(t, a, q)
	is(t, b, planned(4))
}

func TestCopy(t *testing.T) {
	for _, size := range sizes {
		p, q := made(t, size), planned(size)
		is(t, p.Copy(), q)
		for slot := range size {
			switch slot % 5 {
			case 0, 1:
				shade.does(t, p, q, slot)
			case 2:
				born.does(t, p, q, slot)
			}
		}
		blacken.does(t, p, q, 0)
		c := p.Copy()
		if c == p {
			t.Error("the copy is the paint itself")
		}
		is(t, c, q)
		is(t, c.Copy(), q)
		is(t, p, q)
	}
	for _, m := range mixtures(4) {
		p, q := painted(t, m...)
		is(t, p.Copy(), q)
	}
}

func TestCopyGoesOnAsThePaintWould(t *testing.T) {
	for _, x := range changes {
		for slot := -1; slot <= 6; slot++ {
			p, q := mixed(t)
			c, r := p.Copy(), slices.Clone(q)
			x.does(t, p, q, slot)
			x.does(t, c, r, slot)
			is(t, p, q)
			is(t, c, r)
		}
	}
}

func TestCopyIsIndependent(t *testing.T) {
	all := map[string]func(p *Paint, q plan){
		"Clear": func(p *Paint, q plan) { p.Clear(); clear(q) },
	}
	for slot, x := range map[int]change{1: shade, 2: blacken, 3: born, 4: bleach} {
		all[x.name] = func(p *Paint, q plan) { x.does(t, p, q, slot) }
	}
	for name, call := range all {
		for _, changesCopy := range []bool{false, true} {
			changed, q := mixed(t)
			left, r := changed.Copy(), slices.Clone(q)
			if changesCopy {
				changed, left = left, changed
			}
			if call(changed, q); slices.Equal(q, r) {
				t.Error(name, "changes nothing")
			}
			is(t, changed, q)
			is(t, left, r)
		}
	}
}

// P15.2

func TestOf(t *testing.T) {
	p, _ := mixed(t)
	for slot, want := range []int{2, 0, 1, 0, 1, 2} {
		if c, e := p.Of(slot); c != want || e != api.OK {
			t.Error("Of", slot, c, e, "want", want)
		}
	}
	for _, slot := range append([]int{6, 7, 255}, noSlots...) {
		if c, e := p.Of(slot); c != 0 || e != api.ErrRange {
			t.Error("Of", slot, c, e)
		}
	}
}

// P15.3

func TestChanges(t *testing.T) {
	for _, x := range []struct {
		change
		was, want int
		is        bool
		e         api.Errno
	}{
		{shade, white, grey, true, api.OK},
		{shade, grey, grey, false, api.OK},
		{shade, black, black, false, api.OK},
		{blacken, white, white, false, api.ErrState},
		{blacken, grey, black, false, api.OK},
		{blacken, black, black, false, api.ErrState},
		{born, white, black, false, api.OK},
		{born, grey, grey, false, api.ErrState},
		{born, black, black, false, api.ErrState},
		{bleach, white, white, false, api.OK},
		{bleach, grey, white, false, api.OK},
		{bleach, black, white, false, api.OK},
	} {
		p, _ := painted(t, grey, x.was, black, white)
		if is, e := x.paint(p, 1); is != x.is || e != x.e {
			t.Error(x.name, "of", x.was, is, e, "want", x.is, x.e)
		}
		is(t, p, plan{grey, x.want, black, white})
	}
}

func TestChangesOfAllSlots(t *testing.T) {
	for _, size := range sizes {
		for _, x := range changes {
			p, q := made(t, size), planned(size)
			for slot := range size {
				x.does(t, p, q, slot)
				x.does(t, p, q, slot)
			}
			is(t, p, q)
			for _, y := range changes {
				c, r := p.Copy(), slices.Clone(q)
				for slot := range size {
					y.does(t, c, r, slot)
				}
				is(t, c, r)
			}
		}
	}
}

func TestSlotsThatAreNotThere(t *testing.T) {
	for _, size := range sizes {
		p, q := made(t, size), planned(size)
		shade.does(t, p, q, size-1)
		for _, slot := range append([]int{size, size + 1, size + 64}, noSlots...) {
			for _, x := range changes {
				if is, e := x.paint(p, slot); is || e != api.ErrRange {
					t.Error(x.name, slot, is, e, "of", size)
				}
			}
			if c, e := p.Of(slot); c != 0 || e != api.ErrRange {
				t.Error("Of", slot, c, e, "of", size)
			}
		}
		is(t, p, q)
	}
}

func TestBornIsBlackAsBlackened(t *testing.T) {
	p, _ := painted(t, white, black)
	if e := p.Born(0); e != api.OK {
		t.Error("Born", e)
	}
	is(t, p, plan{black, black})
	for slot := range 2 {
		if e := p.Bleach(slot); e != api.OK {
			t.Error("Bleach", slot, e)
		}
		if is, e := p.Shade(slot); !is || e != api.OK {
			t.Error("Shade", slot, is, e)
		}
	}
	is(t, p, plan{grey, grey})
}

// P15.4

func TestGrey(t *testing.T) {
	p, _ := mixed(t)
	for _, x := range []struct {
		from, want int
		is         bool
	}{
		{math.MinInt, 2, true}, {-1 << 32, 2, true}, {-256, 2, true}, {-1, 2, true}, {0, 2, true}, {1, 2, true}, {2, 2, true},
		{3, 4, true}, {4, 4, true},
		{5, 0, false}, {6, 0, false}, {7, 0, false}, {255, 0, false}, {256, 0, false}, {1 << 32, 0, false}, {math.MaxInt, 0, false},
	} {
		if slot, is := p.Grey(x.from); slot != x.want || is != x.is {
			t.Error("Grey", x, slot, is)
		}
	}
}

func TestGreyOfOneSlot(t *testing.T) {
	for _, size := range sizes {
		for _, slot := range []int{0, size / 2, size - 1} {
			p, q := made(t, size), planned(size)
			shade.does(t, p, q, slot)
			is(t, p, q)
			// The last slot, and the first one: 0 and true is not 0 and false.
			if s, is := p.Grey(slot); s != slot || !is {
				t.Error("Grey", slot, s, is, "of", size)
			}
			if s, is := p.Grey(slot + 1); s != 0 || is {
				t.Error("Grey", slot+1, s, is, "of", size)
			}
		}
	}
}

func TestGreyGoesThroughAll(t *testing.T) {
	for _, size := range sizes {
		for step := 1; step <= 7; step++ {
			p, q := made(t, size), planned(size)
			var want []int
			for slot := range size {
				if slot%step == 0 {
					shade.does(t, p, q, slot)
					want = append(want, slot)
				} else {
					born.does(t, p, q, slot)
				}
			}
			var got []int
			for slot, is := p.Grey(0); is && len(got) <= size; slot, is = p.Grey(slot + 1) {
				got = append(got, slot)
			}
			if !slices.Equal(got, want) {
				t.Error("Grey", got, "want", want)
			}
			is(t, p, q)
		}
	}
}

// P15.5 and P15.7

func TestCountsAndClear(t *testing.T) {
	for _, size := range []int{1, 2, 3, 4, 5} {
		for _, m := range mixtures(size) {
			p, q := painted(t, m...)
			is(t, p, q)
			for range 2 {
				p.Clear()
				is(t, p, planned(size))
			}
			// What was cleared goes the whole way again.
			if is, e := p.Shade(size - 1); !is || e != api.OK {
				t.Error("Shade", is, e)
			}
			if e := p.Blacken(size - 1); e != api.OK {
				t.Error("Blacken", e)
			}
			q = planned(size)
			q[size-1] = black
			is(t, p, q)
		}
	}
}

func TestCountsAndClearOfAllSizes(t *testing.T) {
	for _, size := range sizes {
		for name, way := range map[string][]change{"grey": {shade}, "black": {shade, blacken}, "born": {born}} {
			p, q := made(t, size), planned(size)
			for slot := range size {
				for _, x := range way {
					x.does(t, p, q, slot)
					isCounted(t, p, q)
				}
			}
			if w, g, b := p.Counts(); w != 0 || max(g, b) != size || min(g, b) != 0 || (g > 0) != (name == "grey") {
				t.Error("Counts", w, g, b, "of", size, name)
			}
			p.Clear()
			is(t, p, planned(size))
		}
	}
}

// turns calls with numbers that are chosen by a rule which repeats only after many of them.
func turns(times int, call func(n int)) {
	n := uint64(1)
	for range times {
		n = n*6364136223846793005 + 1442695040888963407
		call(int(n >> 33))
	}
}

// P15.6

func TestTheWay(t *testing.T) {
	for _, size := range []int{1, 3, 65, 256} {
		p, q := made(t, size), planned(size)
		shaded := make([]int, size)
		was := make([]int, size)
		turns(8*size, func(n int) {
			slot := n % (size + 2) // now and then, none that is there
			if n/1024%3 > 0 {
				want, wantE := q.shade(slot)
				is, e := p.Shade(slot)
				if is != want || e != wantE {
					t.Fatal("Shade", slot, is, e, "want", want, wantE)
				}
				if is {
					shaded[slot]++
				}
			} else {
				blacken.does(t, p, q, slot)
			}
			for i := range size {
				c, e := p.Of(i)
				if e != api.OK || c != was[i] && (i != slot || c != was[i]+1) {
					t.Fatal("Of", i, c, e, "was", was[i])
				}
				if shaded[i] != min(c, 1) {
					t.Fatal(i, "is", c, "and was shaded", shaded[i], "times")
				}
				was[i] = c
			}
		})
		is(t, p, q)
		if p.Clear(); size > 3 && (q.count(grey) == 0 || q.count(black) == 0) {
			t.Error("too few turns", q)
		}
		is(t, p, planned(size))
	}
}

// P15.7 and P15.8

func TestLongSequences(t *testing.T) {
	often := []change{shade, shade, shade, shade, blacken, blacken, born, bleach} // so that the colours are mixed
	for _, size := range sizes {
		p, q := made(t, size), planned(size)
		turns(600, func(n int) {
			slot := n/8%(size+2) - 1 // now and then, none that is there
			if n%512 == 0 {
				p.Clear()
				clear(q)
			}
			often[n/4096%len(often)].does(t, p, q, slot)
			isCounted(t, p, q)
			for i, want := range q {
				if c, e := p.Of(i); c != want || e != api.OK {
					t.Fatal("Of", i, c, e, "want", want)
				}
			}
		})
		is(t, p, q)
	}
}

// P15.8

func TestOthersAreLeft(t *testing.T) {
	for _, size := range []int{1, 2, 3, 4} {
		for _, m := range mixtures(size) {
			for _, x := range changes {
				for slot := -1; slot <= size; slot++ {
					p, q := painted(t, m...)
					x.does(t, p, q, slot)
					is(t, p, q)
				}
			}
		}
	}
	for _, slot := range []int{0, 1, 63, 64, 127, 128, 254, 255} {
		for _, x := range changes {
			p, q := made(t, 256), planned(256)
			for i := range 256 {
				changes[i%3].does(t, p, q, i)
			}
			if x.name == blacken.name { // only what is grey can be
				bleach.does(t, p, q, slot)
				shade.does(t, p, q, slot)
			}
			x.does(t, p, q, slot)
			is(t, p, q)
		}
	}
}

func TestRefusalsAndQuestionsChangeNothing(t *testing.T) {
	p, q := mixed(t)
	want := slices.Clone(q)
	for range 2 {
		is(t, p, want)
		p.Copy()
		for slot := -1; slot <= 6; slot++ {
			for _, x := range changes {
				r := slices.Clone(q)
				if _, e := x.plan(r, slot); e != api.OK {
					x.does(t, p, q, slot)
					is(t, p, want)
				}
			}
			if c, e := q.of(slot); e == api.OK && c != white {
				shade.does(t, p, q, slot)
				is(t, p, want)
			}
		}
	}
}

// TestShortSequences makes all sequences of a few changes, right ones and wrong ones.
func TestShortSequences(t *testing.T) {
	var next func(p *Paint, q plan, left int)
	next = func(p *Paint, q plan, left int) {
		is(t, p, q)
		if left == 0 || t.Failed() {
			return
		}
		for slot := range len(q) + 1 {
			for _, x := range changes {
				c, r := p.Copy(), slices.Clone(q)
				x.does(t, c, r, slot)
				next(c, r, left-1)
			}
		}
		c := p.Copy()
		c.Clear()
		next(c, planned(len(q)), left-1)
	}
	next(made(t, 1), planned(1), 4)
	next(made(t, 2), planned(2), 4)
}

// R2

func TestNotValid(t *testing.T) {
	for name, p := range map[string]*Paint{"nil": nil, "zero": {}, "new": new(Paint)} {
		for _, slot := range append([]int{0, 1, 255}, noSlots...) {
			if c, e := p.Of(slot); c != 0 || e != api.ErrNil {
				t.Error(name, "Of", slot, c, e)
			}
			for _, x := range changes {
				if is, e := x.paint(p, slot); is || e != api.ErrNil {
					t.Error(name, x.name, slot, is, e)
				}
			}
			if s, is := p.Grey(slot); s != 0 || is {
				t.Error(name, "Grey", slot, s, is)
			}
		}
		p.Clear()
		if w, g, b := p.Counts(); w != 0 || g != 0 || b != 0 {
			t.Error(name, "Counts", w, g, b)
		}
		if c := p.Copy(); c != nil {
			t.Error(name, "Copy", c)
		}
		if p != nil && *p != (Paint{}) {
			t.Error(name, "was changed")
		}
	}
}

// The examples of the chapter.

func TestExamples(t *testing.T) {
	p := made(t, 4)
	shaded := func(slot int, want bool, wantE api.Errno) {
		t.Helper()
		if is, e := p.Shade(slot); is != want || e != wantE {
			t.Error("Shade", slot, is, e)
		}
	}
	coloured := func(slot, want int) {
		t.Helper()
		if c, e := p.Of(slot); c != want || e != api.OK {
			t.Error("Of", slot, c, e)
		}
	}
	found := func(from, want int, wantIs bool) {
		t.Helper()
		if slot, is := p.Grey(from); slot != want || is != wantIs {
			t.Error("Grey", from, slot, is)
		}
	}
	counted := func(want ...int) {
		t.Helper()
		if w, g, b := p.Counts(); !slices.Equal([]int{w, g, b}, want) {
			t.Error("Counts", w, g, b)
		}
	}
	refused := func(want api.Errno, l ...api.Errno) {
		t.Helper()
		for i, e := range l {
			if e != want {
				t.Error(i, e, "want", want)
			}
		}
	}
	shaded(2, true, api.OK)
	shaded(2, false, api.OK)
	coloured(2, 1)
	found(0, 2, true)
	counted(3, 1, 0)
	refused(api.OK, p.Blacken(2))
	refused(api.ErrState, p.Blacken(2), p.Blacken(1))
	coloured(2, 2)
	refused(api.OK, p.Born(3))
	refused(api.ErrState, p.Born(3))
	shaded(3, false, api.OK)
	counted(2, 0, 2)
	shaded(0, true, api.OK)
	shaded(1, true, api.OK)
	found(1, 1, true)
	found(2, 0, false)
	found(-5, 0, true)
	refused(api.OK, p.Bleach(2), p.Bleach(0))
	coloured(0, 0)
	counted(2, 1, 1)
	shaded(4, false, api.ErrRange)
	refused(api.ErrRange, p.Born(-1))
	for _, size := range []int{0, 257} {
		if p, e := New(size); p != nil || e != api.ErrArg {
			t.Error("New", size, p, e)
		}
	}
	p.Clear()
	counted(4, 0, 0)
}
