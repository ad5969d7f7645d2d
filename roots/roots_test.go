package roots

import (
	"math"
	"slices"
	"testing"

	"estray/api"
)

// most is how many roots there can be, by the number of the chapter.
const most = 32

func ref(slot int, gen uint32) api.Ref { return api.Ref{Slot: slot, Gen: gen} }

var (
	// objects are the least and the greatest ones, and some between; those beside each other have the slot or the generation in common.
	objects = []api.Ref{ref(0, 1), ref(0, 2), ref(1, 2), ref(1, 1), ref(127, 1), ref(128, 1), ref(128, 1<<31), ref(254, 1<<16), ref(255, 1<<16), ref(255, math.MaxUint32), ref(0, math.MaxUint32)}
	// noObjects are none; some would be objects in fewer bits.
	noObjects = []api.Ref{{}, ref(1, 0), ref(5, 0), ref(255, 0), ref(256, 0), ref(-1, 0), ref(-1, 1), ref(-2, 1), ref(-255, 7), ref(-256, 1), ref(256, 1), ref(257, math.MaxUint32), ref(512, 1), ref(1<<16, 1), ref(1<<32, 1), ref(1<<32+5, 1), ref(-1<<32, 1), ref(math.MinInt, 1), ref(math.MaxInt, 1)}
	// noIndexes are those of no root; some would be indexes in fewer bits.
	noIndexes = []int{math.MinInt, math.MinInt + 1, -1 << 32, -256, -32, -31, -2, -1, most, most + 1, 63, 64, 255, 256, 1 << 16, 1 << 32, 1<<32 + 1, math.MaxInt}
)

// numbered returns an object for each number from 0 on; no two numbers that are used here have the same one.
func numbered(n int) api.Ref { return ref(n%256, uint32(n/256+1)) }

// firsts returns as many numbered objects.
func firsts(n int) []api.Ref {
	var l []api.Ref
	for i := range n {
		l = append(l, numbered(i))
	}
	return l
}

// plan is what a stack has to be: the roots, and the chapter's words, written out a second time.
type plan []api.Ref

func (p *plan) push(r api.Ref) (int, api.Errno) {
	if r.Slot < 0 || r.Slot > 255 || r.Gen == 0 {
		return 0, api.ErrArg
	}
	if len(*p) == most {
		return 0, api.ErrFull
	}
	*p = append(slices.Clone(*p), r)
	return len(*p) - 1, api.OK
}

func (p *plan) get(i int) (api.Ref, api.Errno) {
	for at, r := range *p {
		if at == i {
			return r, api.OK
		}
	}
	return api.Ref{}, api.ErrRange
}

func (p *plan) drop(i int) (api.Ref, api.Errno) {
	r, e := p.get(i)
	if e != api.OK {
		return api.Ref{}, e
	}
	var left plan
	for at, r := range *p {
		if at != i {
			left = append(left, r)
		}
	}
	*p = left
	return r, api.OK
}

func (p *plan) pop() (api.Ref, api.Errno) {
	if len(*p) == 0 {
		return api.Ref{}, api.ErrNone
	}
	return p.drop(len(*p) - 1)
}

func (p *plan) find(r api.Ref) (int, bool) {
	for at, root := range *p {
		if root == r {
			return at, true
		}
	}
	return 0, false
}

// change is a call that may change a stack, or its plan; its results are an index, an object and an error.
type change struct {
	name  string
	stack func(s *Stack) (int, api.Ref, api.Errno)
	plan  func(p *plan) (int, api.Ref, api.Errno)
}

func pushing(r api.Ref) change {
	return change{"Push", func(s *Stack) (int, api.Ref, api.Errno) {
		i, e := s.Push(r)
		return i, api.Ref{}, e
	}, func(p *plan) (int, api.Ref, api.Errno) {
		i, e := p.push(r)
		return i, api.Ref{}, e
	}}
}

func dropping(i int) change {
	return change{"Drop", func(s *Stack) (int, api.Ref, api.Errno) {
		r, e := s.Drop(i)
		return 0, r, e
	}, func(p *plan) (int, api.Ref, api.Errno) {
		r, e := p.drop(i)
		return 0, r, e
	}}
}

var popping = change{"Pop", func(s *Stack) (int, api.Ref, api.Errno) {
	r, e := s.Pop()
	return 0, r, e
}, func(p *plan) (int, api.Ref, api.Errno) {
	r, e := p.pop()
	return 0, r, e
}}

// does makes a change of the stack and of its plan, and holds the results against each other.
func (x change) does(t *testing.T, s *Stack, p *plan) {
	t.Helper()
	wantI, wantR, wantE := x.plan(p)
	if i, r, e := x.stack(s); i != wantI || r != wantR || e != wantE {
		t.Error(x.name, i, r, e, "want", wantI, wantR, wantE)
	}
}

// made returns a new stack with these roots, and its plan.
func made(t *testing.T, l ...api.Ref) (*Stack, *plan) {
	t.Helper()
	s, p := New(), &plan{}
	if s == nil {
		t.Fatal("New returns nil")
	}
	for _, r := range l {
		pushing(r).does(t, s, p)
	}
	return s, p
}

// isListed asks what the roots are, and how many.
func isListed(t *testing.T, s *Stack, p *plan) {
	t.Helper()
	if l := s.All(); !slices.Equal(l, *p) {
		t.Error("All", l, "want", *p)
	}
	if n := s.Len(); n != len(*p) {
		t.Error("Len", n, "want", len(*p))
	}
}

// is asks all questions about a stack.
func is(t *testing.T, s *Stack, p *plan) {
	t.Helper()
	isListed(t, s, p)
	for i := -most; i <= 2*most; i++ {
		want, wantE := p.get(i)
		if r, e := s.Get(i); r != want || e != wantE {
			t.Error("Get", i, r, e, "want", want, wantE)
		}
	}
	for _, r := range slices.Concat(*p, objects, noObjects) {
		want, there := p.find(r)
		if i, is := s.Find(r); i != want || is != there {
			t.Error("Find", r, i, is, "want", want, there)
		}
		if is := s.Has(r); is != there {
			t.Error("Has", r, is)
		}
	}
}

// P16.1

func TestNew(t *testing.T) {
	s, p := made(t)
	is(t, s, p)
	if l := s.All(); len(l) != 0 {
		t.Error("All", l)
	}
	popping.does(t, s, p)
	dropping(0).does(t, s, p)
	is(t, s, p)
}

func TestNewStacksAreIndependent(t *testing.T) {
	a, p := made(t, objects...)
	b, q := made(t)
	is(t, a, p)
	is(t, b, q)
	pushing(ref(9, 9)).does(t, b, q)
	popping.does(t, a, p)
	is(t, a, p)
	is(t, b, q)
}

func TestCopy(t *testing.T) {
	for n := range most + 1 {
		s, p := made(t, firsts(n)...)
		c := s.Copy()
		if c == s {
			t.Error("the copy is the stack itself")
		}
		is(t, c, p)
		is(t, c.Copy(), p)
		is(t, s, p)
	}
}

func TestCopyGoesOnAsTheStackWould(t *testing.T) {
	for n := range most + 1 {
		changes := []change{popping, pushing(ref(9, 9)), pushing(ref(9, 0)), pushing(numbered(0))}
		for i := -1; i <= n; i++ {
			changes = append(changes, dropping(i))
		}
		for _, x := range changes {
			s, p := made(t, firsts(n)...)
			c, q := s.Copy(), new(slices.Clone(*p))
			x.does(t, s, p)
			x.does(t, c, q)
			isListed(t, s, p)
			isListed(t, c, q)
		}
	}
}

func TestCopyIsIndependent(t *testing.T) {
	for _, x := range []change{popping, pushing(ref(9, 9)), dropping(0), dropping(1), dropping(2)} {
		for _, changesCopy := range []bool{false, true} {
			changed, p := made(t, firsts(3)...)
			left, q := changed.Copy(), new(slices.Clone(*p))
			if changesCopy {
				changed, left = left, changed
			}
			if x.does(t, changed, p); slices.Equal(*p, *q) {
				t.Error(x.name, "changes nothing")
			}
			is(t, changed, p)
			is(t, left, q)
		}
	}
}

// P16.2

func TestPush(t *testing.T) {
	s := New()
	for n, r := range objects {
		if i, e := s.Push(r); i != n || e != api.OK {
			t.Error("Push", r, i, e)
		}
		if l := s.All(); !slices.Equal(l, objects[:n+1]) {
			t.Error("All", l, "want", objects[:n+1])
		}
	}
}

func TestPushOfAllSlots(t *testing.T) {
	for slot := range 256 {
		for _, gen := range []uint32{1, 2, 255, 256, 1 << 16, 1 << 31, math.MaxUint32 - 1, math.MaxUint32} {
			s, p := made(t, ref(slot, gen))
			isListed(t, s, p)
		}
		s, p := made(t, ref(slot, 0))
		isListed(t, s, p)
	}
}

func TestPushOfWhatIsThere(t *testing.T) {
	s, p := New(), &plan{}
	for n := range most {
		if i, e := s.Push(ref(255, 7)); i != n || e != api.OK {
			t.Error("Push", n, i, e)
		}
		p.push(ref(255, 7))
		is(t, s, p)
	}
}

func TestPushOfNoObjects(t *testing.T) {
	for n := range most + 1 {
		s, p := made(t, firsts(n)...)
		for _, r := range noObjects {
			// ErrArg comes first, also if there is no room.
			if i, e := s.Push(r); i != 0 || e != api.ErrArg {
				t.Error("Push", r, i, e, "behind", n)
			}
		}
		is(t, s, p)
	}
}

func TestPushOfTooMany(t *testing.T) {
	s, p := made(t, firsts(most)...)
	is(t, s, p)
	for _, r := range slices.Concat(objects, firsts(most+1)) {
		if i, e := s.Push(r); i != 0 || e != api.ErrFull {
			t.Error("Push", r, i, e)
		}
	}
	is(t, s, p)
	// One that goes makes room for one.
	for _, x := range []change{popping, dropping(0), dropping(most / 2), dropping(most - 1)} {
		x.does(t, s, p)
		if i, e := s.Push(ref(9, 9)); i != most-1 || e != api.OK {
			t.Error("Push", i, e)
		}
		p.push(ref(9, 9))
		if i, e := s.Push(ref(9, 9)); i != 0 || e != api.ErrFull {
			t.Error("Push", i, e)
		}
		is(t, s, p)
	}
}

// P16.3

func TestGet(t *testing.T) {
	for n := range most + 1 {
		s, _ := made(t, firsts(n)...)
		for i, want := range firsts(n) {
			if r, e := s.Get(i); r != want || e != api.OK {
				t.Error("Get", i, r, e)
			}
		}
		for _, i := range append([]int{n, n + 1, -n - 1}, noIndexes...) {
			if r, e := s.Get(i); r != (api.Ref{}) || e != api.ErrRange {
				t.Error("Get", i, r, e, "of", n)
			}
		}
	}
}

func TestDrop(t *testing.T) {
	for n := range most + 1 {
		for i := range n {
			s, _ := made(t, firsts(n)...)
			if r, e := s.Drop(i); r != numbered(i) || e != api.OK {
				t.Error("Drop", i, r, e, "of", n)
			}
			left := plan(slices.Concat(firsts(n)[:i], firsts(n)[i+1:]))
			is(t, s, &left)
			// The last one went to another place, or is gone: nothing is behind it.
			for _, at := range []int{n - 1, n} {
				if r, e := s.Get(at); r != (api.Ref{}) || e != api.ErrRange {
					t.Error("Get", at, r, e, "of", n-1)
				}
			}
			if s.Has(numbered(i)) {
				t.Error(i, "is there still")
			}
		}
	}
}

func TestDropOfWhatIsNotThere(t *testing.T) {
	for n := range most + 1 {
		s, p := made(t, firsts(n)...)
		for _, i := range append([]int{n, n + 1, -n - 1}, noIndexes...) {
			if r, e := s.Drop(i); r != (api.Ref{}) || e != api.ErrRange {
				t.Error("Drop", i, r, e, "of", n)
			}
		}
		is(t, s, p)
	}
}

func TestDropOfAll(t *testing.T) {
	for name, next := range map[string]func(n int) int{
		"the first":  func(n int) int { return 0 },
		"the second": func(n int) int { return min(1, n-1) },
		"the middle": func(n int) int { return n / 2 },
		"the last":   func(n int) int { return n - 1 },
	} {
		s, p := made(t, firsts(most)...)
		for n := most; n > 0; n-- {
			dropping(next(n)).does(t, s, p)
			is(t, s, p)
		}
		if r, e := s.Drop(0); r != (api.Ref{}) || e != api.ErrRange {
			t.Error("Drop", name, r, e)
		}
		pushing(ref(9, 9)).does(t, s, p)
		is(t, s, p)
	}
}

func TestDropOfOneOfSeveral(t *testing.T) {
	a, b := ref(5, 1), ref(7, 2)
	s, p := made(t, a, b, a, a, b)
	for _, x := range []struct {
		drop int
		want []api.Ref
	}{
		{2, []api.Ref{a, b, a, b}},
		{0, []api.Ref{b, a, b}},
		{2, []api.Ref{b, a}},
		{0, []api.Ref{a}},
		{0, nil},
	} {
		dropping(x.drop).does(t, s, p)
		if l := s.All(); !slices.Equal(l, x.want) {
			t.Error("All", l, "want", x.want)
		}
		is(t, s, p)
	}
}

// P16.4

func TestPop(t *testing.T) {
	for n := range most + 1 {
		s, p := made(t, firsts(n)...)
		for left := n; left > 0; left-- {
			if r, e := s.Pop(); r != numbered(left-1) || e != api.OK {
				t.Error("Pop", r, e, "of", left)
			}
			p.pop()
			isListed(t, s, p)
		}
		for range 3 {
			if r, e := s.Pop(); r != (api.Ref{}) || e != api.ErrNone {
				t.Error("Pop", r, e, "of none")
			}
		}
		is(t, s, p)
		pushing(ref(9, 9)).does(t, s, p)
		is(t, s, p)
	}
}

// P16.5

func TestFindAndHas(t *testing.T) {
	s, _ := made(t, ref(5, 1), ref(7, 2), ref(5, 1), ref(0, 1), ref(7, 2), ref(255, math.MaxUint32))
	for _, x := range []struct {
		r    api.Ref
		want int
		is   bool
	}{
		{ref(5, 1), 0, true}, {ref(7, 2), 1, true}, {ref(0, 1), 3, true}, {ref(255, math.MaxUint32), 5, true},
		{ref(5, 2), 0, false}, {ref(7, 1), 0, false}, {ref(255, 1), 0, false}, {ref(0, 2), 0, false}, {ref(254, math.MaxUint32), 0, false},
		{api.Ref{}, 0, false}, {ref(5, 0), 0, false}, {ref(0, 0), 0, false}, {ref(1<<32+5, 1), 0, false}, {ref(5-256, 1), 0, false},
	} {
		if i, is := s.Find(x.r); i != x.want || is != x.is {
			t.Error("Find", x, i, is)
		}
		if is := s.Has(x.r); is != x.is {
			t.Error("Has", x, is)
		}
	}
}

func TestFindOfTheSmallestIndex(t *testing.T) {
	a, b := ref(5, 1), ref(5, 2)
	for first := range most {
		for second := first; second < most; second++ {
			l := slices.Repeat([]api.Ref{b}, most)
			l[first], l[second] = a, a
			s, _ := made(t, l...)
			if i, is := s.Find(a); i != first || !is {
				t.Error("Find", first, second, i, is)
			}
			if !s.Has(a) {
				t.Error("Has", first, second)
			}
		}
	}
}

func TestNothingIsFoundBehindTheRoots(t *testing.T) {
	s, p := made(t, firsts(most)...)
	for left := most; left > 0; left-- {
		popping.does(t, s, p)
		for _, r := range firsts(most)[left-1:] {
			if i, is := s.Find(r); i != 0 || is || s.Has(r) {
				t.Error("Find", r, i, is)
			}
		}
		// Places without a root are not roots that are none.
		if i, is := s.Find(api.Ref{}); i != 0 || is || s.Has(api.Ref{}) {
			t.Error("Find of none", i, is)
		}
	}
}

func TestAllAndLen(t *testing.T) {
	for n := range most + 1 {
		s, _ := made(t, firsts(n)...)
		if l := s.All(); !slices.Equal(l, firsts(n)) {
			t.Error("All", l, "want", firsts(n))
		}
		if s.Len() != n {
			t.Error("Len", s.Len(), "want", n)
		}
	}
}

// P16.6

// turns calls with numbers that are chosen by a rule which repeats only after many of them.
func turns(times int, call func(n int)) {
	n := uint64(1)
	for range times {
		n = n*6364136223846793005 + 1442695040888963407
		call(int(n >> 33))
	}
}

// TestRootsAreWhatWasPushed pushes each object once, so that each root is known by its name.
func TestRootsAreWhatWasPushed(t *testing.T) {
	s := New()
	pushed, gone := 0, map[api.Ref]bool{}
	turns(4000, func(n int) {
		var r api.Ref
		e := api.ErrNone
		switch n % 8 {
		case 0, 1, 2, 3:
			if _, e := s.Push(numbered(pushed)); e == api.OK {
				pushed++
			}
		case 4, 5:
			r, e = s.Pop()
		default:
			r, e = s.Drop(n / 8 % (s.Len() + 1))
		}
		if e == api.OK {
			if gone[r] {
				t.Fatal(r, "went twice")
			}
			gone[r] = true
		}
		var want []api.Ref
		for _, r := range firsts(pushed) {
			if !gone[r] {
				want = append(want, r)
			}
		}
		if l := s.All(); !slices.Equal(l, want) || s.Len() != len(want) {
			t.Fatal("All", l, "want", want)
		}
	})
	if pushed < 1000 || len(gone) < 900 {
		t.Error("too few turns", pushed, len(gone))
	}
}

func TestLongSequences(t *testing.T) {
	for _, names := range []int{1, 2, 5, len(objects)} {
		s, p := made(t)
		reached := map[int]bool{}
		turns(6000, func(n int) {
			// Now it becomes longer, now shorter, and now and then a call is refused.
			x := pushing(objects[n/64%names])
			switch kind := n % 16; {
			case kind == 0:
				x = pushing(noObjects[n/64%len(noObjects)])
			case kind < 4:
				x = dropping(n/64%(most+2) - 1)
			case kind < 6, kind < 10 && n/1024%4 == 0:
				x = popping
			}
			x.does(t, s, p)
			isListed(t, s, p)
			reached[len(*p)] = true
		})
		is(t, s, p)
		if !reached[0] || !reached[most] {
			t.Error("too few turns", reached)
		}
	}
}

// TestShortSequences makes all sequences of a few changes, right ones and wrong ones.
func TestShortSequences(t *testing.T) {
	changes := []change{pushing(ref(0, 1)), pushing(ref(255, 1)), pushing(ref(0, math.MaxUint32)), pushing(ref(0, 0)), popping, dropping(-1), dropping(0), dropping(1), dropping(2)}
	var next func(s *Stack, p *plan, left int)
	next = func(s *Stack, p *plan, left int) {
		isListed(t, s, p)
		for _, r := range []api.Ref{ref(0, 1), ref(255, 1), {}} {
			want, there := p.find(r)
			if i, is := s.Find(r); i != want || is != there {
				t.Error("Find", r, i, is, "want", want, there)
			}
		}
		if left == 0 || t.Failed() {
			return
		}
		for _, x := range changes {
			c, q := s.Copy(), new(slices.Clone(*p))
			x.does(t, c, q)
			next(c, q, left-1)
		}
	}
	s, p := made(t)
	next(s, p, 5)
	s, p = made(t, firsts(most-1)...)
	next(s, p, 3)
}

// P16.7

func TestPushAndPop(t *testing.T) {
	for n := range most {
		s, p := made(t, firsts(n)...)
		was := *s
		for _, r := range append([]api.Ref{numbered(0)}, objects...) {
			if i, e := s.Push(r); i != n || e != api.OK {
				t.Error("Push", r, i, e, "behind", n)
			}
			if got, e := s.Pop(); got != r || e != api.OK {
				t.Error("Pop", got, e, "want", r)
			}
			is(t, s, p)
			if *s != was {
				t.Error("the stack is not as it was", *s, was)
			}
		}
	}
}

func TestDropOfTheLastIsPop(t *testing.T) {
	for n := 1; n <= most; n++ {
		for _, l := range [][]api.Ref{firsts(n), slices.Repeat([]api.Ref{ref(5, 1)}, n)} {
			dropped, p := made(t, l...)
			popped := dropped.Copy()
			a, e := dropped.Drop(n - 1)
			b, f := popped.Pop()
			if a != l[n-1] || b != a || e != api.OK || f != api.OK {
				t.Error("Drop and Pop", a, e, b, f, "want", l[n-1])
			}
			p.pop()
			is(t, dropped, p)
			is(t, popped, p)
			if *dropped != *popped {
				t.Error("the stacks are not equal", *dropped, *popped)
			}
		}
	}
}

// P16.8

func TestWhatIsReturnedCanBeChanged(t *testing.T) {
	for n := range most + 1 {
		s, p := made(t, firsts(n)...)
		l, other := s.All(), s.All()
		for i := range l {
			l[i] = ref(9, 9)
		}
		// What is appended may stand in memory behind the list.
		l = append(l, ref(9, 9), ref(9, 9))
		if !slices.Equal(other, *p) {
			t.Error("two lists share memory", other)
		}
		is(t, s, p)
		pushing(ref(8, 8)).does(t, s, p)
		popping.does(t, s, p)
		dropping(0).does(t, s, p)
		if !slices.Equal(other, firsts(n)) {
			t.Error("a list changes with the stack", other)
		}
		for i, r := range l {
			if r != ref(9, 9) {
				t.Error("a list changes with the stack", i, r)
			}
		}
	}
}

func TestRefusalsAndQuestionsChangeNothing(t *testing.T) {
	for _, n := range []int{0, 1, 2, most - 1, most} {
		s, p := made(t, firsts(n)...)
		was := *s
		refused := []change{dropping(-1), dropping(n), dropping(math.MinInt), dropping(math.MaxInt)}
		for _, r := range noObjects {
			refused = append(refused, pushing(r))
		}
		if n == 0 {
			refused = append(refused, popping)
		}
		if n == most {
			refused = append(refused, pushing(numbered(0)))
		}
		for _, x := range refused {
			if _, _, e := x.plan(p); e == api.OK {
				t.Error(x.name, "is not refused")
			}
			x.does(t, s, p)
			s.Copy()
			is(t, s, p)
			if *s != was {
				t.Error("the stack is not as it was", *s, was)
			}
		}
	}
}

// R2

func TestNotValid(t *testing.T) {
	for name, s := range map[string]*Stack{"nil": nil, "zero": {}, "new": new(Stack)} {
		for _, r := range slices.Concat(objects, noObjects) {
			if i, e := s.Push(r); i != 0 || e != api.ErrNil {
				t.Error(name, "Push", r, i, e)
			}
			if i, is := s.Find(r); i != 0 || is {
				t.Error(name, "Find", r, i, is)
			}
			if s.Has(r) {
				t.Error(name, "Has", r)
			}
		}
		for _, i := range append([]int{0, 1, most - 1}, noIndexes...) {
			if r, e := s.Get(i); r != (api.Ref{}) || e != api.ErrNil {
				t.Error(name, "Get", i, r, e)
			}
			if r, e := s.Drop(i); r != (api.Ref{}) || e != api.ErrNil {
				t.Error(name, "Drop", i, r, e)
			}
		}
		if r, e := s.Pop(); r != (api.Ref{}) || e != api.ErrNil {
			t.Error(name, "Pop", r, e)
		}
		if l := s.All(); len(l) != 0 {
			t.Error(name, "All", l)
		}
		if n := s.Len(); n != 0 {
			t.Error(name, "Len", n)
		}
		if c := s.Copy(); c != nil {
			t.Error(name, "Copy", c)
		}
		if s != nil && *s != (Stack{}) {
			t.Error(name, "was changed")
		}
	}
}

// The examples of the chapter.

func TestExamples(t *testing.T) {
	s := New()
	pushed := func(r api.Ref, want int, wantE api.Errno) {
		t.Helper()
		if i, e := s.Push(r); i != want || e != wantE {
			t.Error("Push", r, i, e)
		}
	}
	found := func(r api.Ref, want int) {
		t.Helper()
		if i, is := s.Find(r); i != want || !is {
			t.Error("Find", r, i, is)
		}
	}
	popped := func(want api.Ref, wantE api.Errno) {
		t.Helper()
		if r, e := s.Pop(); r != want || e != wantE {
			t.Error("Pop", r, e)
		}
	}
	pushed(ref(5, 1), 0, api.OK)
	pushed(ref(7, 2), 1, api.OK)
	pushed(ref(5, 1), 2, api.OK)
	found(ref(5, 1), 0)
	if s.Has(ref(7, 1)) || !s.Has(ref(7, 2)) {
		t.Error("Has")
	}
	if r, e := s.Drop(0); r != ref(5, 1) || e != api.OK {
		t.Error("Drop", r, e)
	}
	found(ref(5, 1), 1)
	popped(ref(5, 1), api.OK)
	popped(ref(7, 2), api.OK)
	popped(api.Ref{}, api.ErrNone)
	pushed(ref(5, 0), 0, api.ErrArg)
	pushed(ref(256, 1), 0, api.ErrArg)
	if r, e := s.Get(0); r != (api.Ref{}) || e != api.ErrRange {
		t.Error("Get", r, e)
	}
}
