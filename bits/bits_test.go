package bits

import (
	"math"
	"slices"
	"testing"

	"estray/api"
)

// sizes are the least and the greatest ones, and those around the ends of words.
var sizes = []int{1, 2, 3, 31, 32, 33, 63, 64, 65, 127, 128, 129, 130, 4031, 4032, 4033, 4095, 4096}

// edges are numbers on both sides of the ends of words, and at the ends of the greatest set.
var edges = []int{0, 1, 31, 32, 62, 63, 64, 65, 126, 127, 128, 129, 191, 192, 4031, 4032, 4094, 4095}

// below returns the edges that are below a size.
func below(size int) []int {
	var out []int
	for _, i := range edges {
		if i < size {
			out = append(out, i)
		}
	}
	return out
}

// made returns a set of this size, with these numbers.
func made(t *testing.T, size int, numbers ...int) *Set {
	t.Helper()
	s, e := New(size)
	if e != api.OK || s == nil {
		t.Fatal("New", size, s, e)
	}
	for _, i := range numbers {
		if e := s.Add(i); e != api.OK {
			t.Fatal("Add", size, i, e)
		}
	}
	return s
}

// subsets returns all parts of a list.
func subsets(l []int) [][]int {
	out := [][]int{nil}
	for _, i := range l {
		for _, part := range out {
			out = append(out, append(slices.Clone(part), i))
		}
	}
	return out
}

// least returns the first number of an ordered list that is not below from.
func least(l []int, from int) (int, bool) {
	for _, i := range l {
		if i >= from {
			return i, true
		}
	}
	return 0, false
}

// is asks all questions about a set that has this size and these numbers, which are in increasing order.
func is(t *testing.T, s *Set, size int, numbers ...int) {
	t.Helper()
	if s.Size() != size || s.Count() != len(numbers) || !slices.Equal(s.All(), numbers) {
		t.Error("Size, Count, All:", s.Size(), s.Count(), s.All(), "want", size, numbers)
	}
	asked := append([]int{math.MinInt, -65, -64, -1, size - 1, size, size + 1, size + 63, size + 64, math.MaxInt}, edges...)
	for _, i := range numbers {
		asked = append(asked, i-1, i, i+1)
	}
	for _, i := range asked {
		if s.Has(i) != slices.Contains(numbers, i) {
			t.Error("Has", i, s.Has(i), "of", size, numbers)
		}
		want, there := least(numbers, i)
		if n, ok := s.Next(i); n != want || ok != there {
			t.Error("Next", i, n, ok, "of", size, numbers)
		}
	}
}

// P3.1

func TestNew(t *testing.T) {
	for _, size := range sizes {
		is(t, made(t, size), size)
	}
	for _, size := range []int{0, -1, -64, 4097, 4160, 8192, math.MaxInt, math.MinInt, 1 << 32, 1<<32 + 1} {
		if s, e := New(size); s != nil || e != api.ErrArg {
			t.Error("New", size, s, e)
		}
	}
}

func TestNewSetsAreIndependent(t *testing.T) {
	a, b := made(t, 70), made(t, 70)
	if e := a.Add(69); e != api.OK {
		t.Error(e)
	}
	is(t, a, 70, 69)
	is(t, b, 70)
}

func TestCopy(t *testing.T) {
	for _, size := range sizes {
		numbers := below(size)
		s := made(t, size, numbers...)
		c := s.Copy()
		if c == s {
			t.Error("the copy is the set itself")
		}
		is(t, c, size, numbers...)
		is(t, s, size, numbers...)
		is(t, c.Copy(), size, numbers...)
		is(t, made(t, size).Copy(), size)
	}
}

func TestCopyIsIndependent(t *testing.T) {
	other := made(t, 130, 1, 64)
	for name, change := range map[string]func(s *Set) ([]int, api.Errno){
		"Add":    func(s *Set) ([]int, api.Errno) { return []int{0, 64, 128, 129}, s.Add(128) },
		"Remove": func(s *Set) ([]int, api.Errno) { return []int{0, 129}, s.Remove(64) },
		"Clear":  func(s *Set) ([]int, api.Errno) { s.Clear(); return nil, api.OK },
		"Union":  func(s *Set) ([]int, api.Errno) { return []int{0, 1, 64, 129}, s.Union(other) },
		"Minus":  func(s *Set) ([]int, api.Errno) { return []int{0, 129}, s.Minus(other) },
	} {
		for _, changesCopy := range []bool{false, true} {
			changed, left := made(t, 130, 0, 64, 129), (*Set)(nil)
			if left = changed.Copy(); changesCopy {
				changed, left = left, changed
			}
			numbers, e := change(changed)
			if e != api.OK {
				t.Error(name, e)
			}
			is(t, changed, 130, numbers...)
			is(t, left, 130, 0, 64, 129)
		}
	}
	is(t, other, 130, 1, 64)
}

// P3.2

func TestAddAndRemove(t *testing.T) {
	for _, size := range sizes {
		for _, i := range append(below(size), size-1) {
			s := made(t, size)
			for range 2 { // what is there already stays
				if e := s.Add(i); e != api.OK {
					t.Error("Add", size, i, e)
				}
				is(t, s, size, i)
			}
			for range 2 { // what is not there is not missed
				if e := s.Remove(i); e != api.OK {
					t.Error("Remove", size, i, e)
				}
				is(t, s, size)
			}
		}
	}
}

func TestRemoveOneOfMany(t *testing.T) {
	for _, size := range sizes {
		numbers := below(size)
		for at, i := range numbers {
			s := made(t, size, numbers...)
			if e := s.Remove(i); e != api.OK {
				t.Error("Remove", size, i, e)
			}
			is(t, s, size, slices.Delete(slices.Clone(numbers), at, at+1)...)
		}
	}
}

func TestNumbersThatCannotBe(t *testing.T) {
	for _, size := range sizes {
		s := made(t, size, size-1)
		for _, i := range []int{-1, -2, -63, -64, -65, size, size + 1, size + 63, size + 64, 4096, 1 << 32, math.MaxInt, math.MinInt} {
			if e := s.Add(i); e != api.ErrRange {
				t.Error("Add", size, i, e)
			}
			if e := s.Remove(i); e != api.ErrRange {
				t.Error("Remove", size, i, e)
			}
			if s.Has(i) {
				t.Error("Has", size, i)
			}
		}
		is(t, s, size, size-1)
	}
}

func TestExamples(t *testing.T) {
	s := made(t, 130)
	for _, x := range []struct {
		i int
		e api.Errno
	}{{0, api.OK}, {129, api.OK}, {64, api.OK}, {64, api.OK}, {130, api.ErrRange}, {-1, api.ErrRange}} {
		if e := s.Add(x.i); e != x.e {
			t.Error("Add", x, e)
		}
	}
	is(t, s, 130, 0, 64, 129)
	for _, x := range []struct {
		i int
		e api.Errno
	}{{64, api.OK}, {64, api.OK}, {200, api.ErrRange}} {
		if e := s.Remove(x.i); e != x.e {
			t.Error("Remove", x, e)
		}
	}
	is(t, s, 130, 0, 129)
	other := made(t, 130, 5, 129)
	if e := s.Union(other); e != api.OK {
		t.Error("Union", e)
	}
	is(t, s, 130, 0, 5, 129)
	if e := s.Minus(other); e != api.OK {
		t.Error("Minus", e)
	}
	is(t, s, 130, 0)
	if e := s.Union(made(t, 131)); e != api.ErrArg {
		t.Error("Union with a set of 131:", e)
	}
	is(t, s, 130, 0)
}

// P3.3

func TestQuestions(t *testing.T) {
	for _, size := range []int{65, 128, 130, 4096} {
		for _, numbers := range subsets([]int{0, 1, 31, 32, 62, 63, 64}) {
			is(t, made(t, size, numbers...), size, numbers...)
		}
	}
}

func TestOrderOfAddingDoesNotMatter(t *testing.T) {
	is(t, made(t, 4096, 4095, 64, 0, 2000, 63, 4032, 0), 4096, 0, 63, 64, 2000, 4032, 4095)
}

func TestFullSets(t *testing.T) {
	for _, size := range sizes {
		var all []int
		for i := range size {
			all = append(all, i)
		}
		s := made(t, size, all...)
		if s.Count() != size || !slices.Equal(s.All(), all) {
			t.Error("full", size, s.Count())
		}
		for i := range size {
			if n, ok := s.Next(i); n != i || !ok || !s.Has(i) {
				t.Error("full", size, i, n, ok)
			}
		}
		if n, ok := s.Next(size); n != 0 || ok {
			t.Error("Next behind the last number", size, n, ok)
		}
	}
}

func TestNext(t *testing.T) {
	s := made(t, 130, 0, 64, 129)
	for _, x := range []struct {
		from, want int
		is         bool
	}{
		{math.MinInt, 0, true}, {-5, 0, true}, {-1, 0, true}, {0, 0, true},
		{1, 64, true}, {63, 64, true}, {64, 64, true},
		{65, 129, true}, {128, 129, true}, {129, 129, true},
		{130, 0, false}, {131, 0, false}, {192, 0, false}, {math.MaxInt, 0, false},
	} {
		if i, is := s.Next(x.from); i != x.want || is != x.is {
			t.Error("Next", x, i, is)
		}
	}
}

func TestAllIsNewMemory(t *testing.T) {
	s := made(t, 130, 0, 64, 129)
	a, b := s.All(), s.All()
	for i := range a {
		a[i] = 7
	}
	_ = append(a[:0], 1, 2, 3)
	if !slices.Equal(b, []int{0, 64, 129}) {
		t.Error("another result has changed:", b)
	}
	is(t, s, 130, 0, 64, 129)
}

// P3.4

func TestClear(t *testing.T) {
	for _, size := range sizes {
		s := made(t, size, append(below(size), size-1)...)
		for range 2 {
			s.Clear()
			is(t, s, size)
		}
		if e := s.Add(size - 1); e != api.OK {
			t.Error("Add after Clear", size, e)
		}
		is(t, s, size, size-1)
	}
}

// P3.5

func TestUnionAndMinus(t *testing.T) {
	parts := subsets([]int{0, 63, 64, 129})
	for _, a := range parts {
		for _, b := range parts {
			var both, less []int
			for _, i := range []int{0, 63, 64, 129} {
				inA, inB := slices.Contains(a, i), slices.Contains(b, i)
				if inA || inB {
					both = append(both, i)
				}
				if inA && !inB {
					less = append(less, i)
				}
			}
			s, o := made(t, 130, a...), made(t, 130, b...)
			if e := s.Union(o); e != api.OK {
				t.Error("Union", a, b, e)
			}
			is(t, s, 130, both...)
			is(t, o, 130, b...)
			s = made(t, 130, a...)
			if e := s.Minus(o); e != api.OK {
				t.Error("Minus", a, b, e)
			}
			is(t, s, 130, less...)
			is(t, o, 130, b...)
		}
	}
}

func TestUnionAndMinusOfAllSizes(t *testing.T) {
	for _, size := range sizes {
		numbers := below(size)
		s := made(t, size)
		if e := s.Union(made(t, size, numbers...)); e != api.OK {
			t.Error("Union", size, e)
		}
		is(t, s, size, numbers...)
		if e := s.Minus(made(t, size, numbers[1:]...)); e != api.OK {
			t.Error("Minus", size, e)
		}
		is(t, s, size, 0)
	}
}

func TestWithItself(t *testing.T) {
	for _, size := range sizes {
		numbers := below(size)
		s := made(t, size, numbers...)
		if e := s.Union(s); e != api.OK {
			t.Error("Union", size, e)
		}
		is(t, s, size, numbers...)
		if e := s.Minus(s); e != api.OK {
			t.Error("Minus", size, e)
		}
		is(t, s, size)
	}
}

func TestOtherSizes(t *testing.T) {
	for _, size := range sizes {
		for _, other := range sizes {
			if other == size {
				continue
			}
			s, o := made(t, size, size-1), made(t, other, 0)
			if e := s.Union(o); e != api.ErrArg {
				t.Error("Union", size, other, e)
			}
			if e := s.Minus(o); e != api.ErrArg {
				t.Error("Minus", size, other, e)
			}
			is(t, s, size, size-1)
			is(t, o, other, 0)
		}
	}
}

func TestOtherSetIsNotKept(t *testing.T) {
	s, o := made(t, 130, 0), made(t, 130, 64)
	if e := s.Union(o); e != api.OK {
		t.Error("Union", e)
	}
	o.Clear()
	is(t, s, 130, 0, 64)
	s.Clear()
	if e := o.Add(1); e != api.OK {
		t.Error("Add", e)
	}
	is(t, s, 130)
	is(t, o, 130, 1)
}

// P3.6

func TestLastChangeCounts(t *testing.T) {
	numbers := []int{0, 63, 64}
	const changes = 6 // to add or to remove each of the numbers
	for code := range changes * changes * changes * changes * changes {
		s, last := made(t, 65), map[int]bool{}
		for c := code; c > 0; c /= changes {
			i, adds := numbers[c%3], c%changes < 3
			change := s.Remove
			if adds {
				change = s.Add
			}
			if e := change(i); e != api.OK {
				t.Error(code, i, adds, e)
			}
			last[i] = adds
		}
		var want []int
		for _, i := range numbers {
			if last[i] {
				want = append(want, i)
			}
		}
		is(t, s, 65, want...)
	}
}

func TestUnionLessTheOther(t *testing.T) {
	parts := subsets([]int{0, 1, 63, 64, 127})
	for _, a := range parts {
		for _, b := range parts {
			union, less, o := made(t, 128, a...), made(t, 128, a...), made(t, 128, b...)
			if e := union.Union(o); e != api.OK {
				t.Error("Union", a, b, e)
			}
			for _, i := range slices.Concat(a, b) {
				if !union.Has(i) {
					t.Error("the union has not", i, a, b)
				}
			}
			if e := union.Minus(o); e != api.OK {
				t.Error("Minus", a, b, e)
			}
			if e := less.Minus(o); e != api.OK {
				t.Error("Minus", a, b, e)
			}
			if !slices.Equal(union.All(), less.All()) {
				t.Error(a, b, union.All(), less.All())
			}
		}
	}
}

// P3.7

func TestNextGoesThroughAll(t *testing.T) {
	lists := subsets([]int{0, 1, 62, 63, 64, 65, 127})
	for step := 1; step < 130; step++ {
		var l []int
		for i := step - 1; i < 128; i += step {
			l = append(l, i)
		}
		lists = append(lists, l)
	}
	for _, numbers := range lists {
		s := made(t, 128, numbers...)
		var got []int
		for i, is := s.Next(0); is && len(got) <= len(numbers); i, is = s.Next(i + 1) {
			got = append(got, i)
		}
		if !slices.Equal(got, numbers) || !slices.Equal(got, s.All()) {
			t.Error(got, numbers)
		}
	}
}

// P3.8

func TestRefusalsAndQuestionsChangeNothing(t *testing.T) {
	s, other := made(t, 130, 0, 64, 129), made(t, 131, 1)
	for range 2 {
		for name, e := range map[string]api.Errno{
			"Add":          s.Add(130),
			"Add -1":       s.Add(-1),
			"Remove":       s.Remove(130),
			"Remove -1":    s.Remove(-1),
			"Union":        s.Union(other),
			"Minus":        s.Minus(other),
			"Union of nil": s.Union(nil),
			"Minus of nil": s.Minus(nil),
			"Union of {}":  s.Union(&Set{}),
			"Minus of {}":  s.Minus(&Set{}),
		} {
			if e == api.OK {
				t.Error(name, "was not refused")
			}
			is(t, s, 130, 0, 64, 129) // these are all questions
		}
		if c := s.Copy(); c == nil || c == s {
			t.Error("Copy", c)
		}
	}
	is(t, s, 130, 0, 64, 129)
	is(t, other, 131, 1)
}

func TestSetsThatAreNotValid(t *testing.T) {
	good := made(t, 3, 1)
	for name, s := range map[string]*Set{"nil": nil, "zero": {}} {
		for range 2 {
			for _, i := range []int{0, 1, -1, 9, 4096, math.MaxInt, math.MinInt} {
				if a, r := s.Add(i), s.Remove(i); a != api.ErrNil || r != api.ErrNil || s.Has(i) {
					t.Error(name, "Add, Remove, Has", i, a, r, s.Has(i))
				}
				if n, is := s.Next(i); n != 0 || is {
					t.Error(name, "Next", i, n, is)
				}
			}
			if s.Count() != 0 || s.Size() != 0 || len(s.All()) != 0 || s.Copy() != nil {
				t.Error(name, "Count, Size, All, Copy:", s.Count(), s.Size(), s.All(), s.Copy())
			}
			for _, o := range []*Set{nil, {}, s, good} {
				if u, m := s.Union(o), s.Minus(o); u != api.ErrNil || m != api.ErrNil {
					t.Error(name, "Union, Minus:", u, m)
				}
			}
			if u, m := good.Union(s), good.Minus(s); u != api.ErrNil || m != api.ErrNil {
				t.Error(name, "Union, Minus of it:", u, m)
			}
			s.Clear()
		}
		is(t, good, 3, 1)
	}
}
