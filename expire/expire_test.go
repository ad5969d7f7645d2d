package expire

import (
	"maps"
	"math"
	"slices"
	"testing"

	"estray/api"
)

var (
	// someIds are ids; many of them would be the same one in fewer bits.
	someIds = []int{math.MinInt, math.MinInt + 1, -1 << 32, -1<<31 - 1, -257, -256, -255, -2, -1, 0, 1, 2, 3, 254, 255, 256, 257, 1<<31 - 1, 1 << 31, 1<<32 - 1, 1 << 32, 1<<32 + 1, 1<<62 + 1, math.MaxInt - 1, math.MaxInt}
	// someTimes are the first times and the last ones, and some between.
	someTimes = []int64{0, 1, 2, 3, 9, 10, 11, 255, 256, 1<<31 - 1, 1 << 31, 1<<32 - 1, 1 << 32, 1<<32 + 1, 1<<40 - 2, 1<<40 - 1, 1 << 40}
	// noTimes are none; some would be times in fewer bits.
	noTimes = []int64{math.MinInt64, math.MinInt64 + 1, -1 << 40, -1<<32 + 10, -1 << 32, -10, -2, -1, 1<<40 + 1, 1<<40 + 2, 1 << 41, 1<<62 + 5, math.MaxInt64 - 1, math.MaxInt64}
	// nows are what the time may be said to be, in increasing order: any number.
	nows = slices.Sorted(slices.Values(slices.Concat(someTimes, noTimes)))
)

// item is an id with its time.
type item struct {
	id int
	at int64
}

// plan is which ids a queue has to have, with which times: the chapter's words, written out a second time.
type plan map[int]int64

func (p plan) set(x item) api.Errno {
	_, is := p[x.id]
	switch {
	case x.at < 0 || x.at > 1_099_511_627_776:
		return api.ErrArg
	case !is && len(p) >= 256:
		return api.ErrFull
	}
	p[x.id] = x.at
	return api.OK
}

func (p plan) drop(id int) bool {
	_, is := p[id]
	delete(p, id)
	return is
}

// earlier reports whether one of two ids stands before the other: by their times, and for equal times by themselves.
func (p plan) earlier(id, other int) bool {
	return p[id] < p[other] || p[id] == p[other] && id < other
}

func (p plan) ordered() []int {
	return slices.SortedFunc(maps.Keys(p), func(a, b int) int {
		if p.earlier(a, b) {
			return -1
		}
		return 1
	})
}

func (p plan) due(now int64) []int {
	var due []int
	for _, id := range p.ordered() {
		if p[id] <= now {
			due = append(due, id)
		}
	}
	for _, id := range due {
		delete(p, id)
	}
	return due
}

func (p plan) next() (int, int64, bool) {
	first, is := 0, false
	for id := range p {
		if !is || p.earlier(id, first) {
			first, is = id, true
		}
	}
	return first, p[first], is
}

// sets, drops and dues change a queue and its plan.
func sets(t *testing.T, q *Queue, p plan, list ...item) {
	t.Helper()
	for _, x := range list {
		if e, want := q.Set(x.id, x.at), p.set(x); e != want {
			t.Errorf("Set(%d, %d) = %d, want %d", x.id, x.at, e, want)
		}
	}
}

func drops(t *testing.T, q *Queue, p plan, ids ...int) {
	t.Helper()
	for _, id := range ids {
		if is, want := q.Drop(id), p.drop(id); is != want {
			t.Errorf("Drop(%d) = %v, want %v", id, is, want)
		}
	}
}

func dues(t *testing.T, q *Queue, p plan, times ...int64) {
	t.Helper()
	for _, now := range times {
		if l, want := q.Due(now), p.due(now); !slices.Equal(l, want) {
			t.Errorf("Due(%d) = %v, want %v", now, l, want)
		}
	}
}

// made returns a queue with these ids, and its plan.
func made(t *testing.T, list ...item) (*Queue, plan) {
	t.Helper()
	q, p := New(), plan{}
	sets(t, q, p, list...)
	return q, p
}

// items returns n ids; their times are not in the order of the ids, and each is that of a few of them.
func items(n int) []item {
	list := make([]item, n)
	for i := range list {
		list[i] = item{id: i*(1-i%2*2) - 7, at: int64((i*i*7 + 3*i) % 101)}
	}
	return list
}

// filled returns a queue with n ids, and its plan.
func filled(t *testing.T, n int) (*Queue, plan) {
	t.Helper()
	q, p := made(t, items(n)...)
	if q.Len() != n || len(p) != n {
		t.Fatalf("%d ids were to be set; Len is %d, want %d", n, q.Len(), len(p))
	}
	return q, p
}

// asked asks all questions about a queue.
func asked(t *testing.T, q *Queue, p plan) {
	t.Helper()
	if n := q.Len(); n != len(p) {
		t.Errorf("Len: %d, want %d", n, len(p))
	}
	id, at, is := p.next()
	if i, a, ok := q.Next(); i != id || a != at || ok != is {
		t.Errorf("Next: %d, %d, %v, want %d, %d, %v", i, a, ok, id, at, is)
	}
	for _, id := range append(p.ordered(), someIds...) {
		at, is := p[id]
		if a, ok := q.When(id); a != at || ok != is {
			t.Errorf("When(%d): %d, %v, want %d, %v", id, a, ok, at, is)
		}
	}
}

// has asks all questions about a queue, and has all its ids come from copies of it: at once, and one by one.
func has(t *testing.T, q *Queue, p plan) {
	t.Helper()
	asked(t, q, p)
	want := p.ordered()
	if l := q.Copy().Due(math.MaxInt64); !slices.Equal(l, want) {
		t.Errorf("Due: %v, want %v", l, want)
	}
	c := q.Copy()
	for _, id := range want {
		if i, at, is := c.Next(); i != id || at != p[id] || !is || !c.Drop(i) {
			t.Errorf("Next: %d, %d, %v, want %d, %d", i, at, is, id, p[id])
		}
	}
	if i, at, is := c.Next(); i != 0 || at != 0 || is || c.Len() != 0 {
		t.Errorf("Next of a queue without ids: %d, %d, %v; Len %d", i, at, is, c.Len())
	}
	asked(t, q, p)
}

// turns makes calls, each with a number by a rule that repeats only after many of them.
func turns(times int, call func(n uint64)) {
	n := uint64(1)
	for range times {
		n = n*6364136223846793005 + 1442695040888963407
		call(n >> 33)
	}
}

// P8.1

func TestNew(t *testing.T) {
	q, p := New(), plan{}
	if q == nil {
		t.Fatal("New returns nil")
	}
	has(t, q, p)
	dues(t, q, p, nows...)
	drops(t, q, p, someIds...)
	has(t, q, p)
	sets(t, q, p, item{3, 5})
	has(t, q, p)
}

func TestNewQueuesAreIndependent(t *testing.T) {
	a, p := made(t, item{1, 10})
	b, q := New(), plan{}
	has(t, b, q)
	sets(t, b, q, item{1, 20}, item{2, 5})
	drops(t, a, p, 2)
	has(t, a, p)
	has(t, b, q)
	dues(t, b, q, 10)
	dues(t, a, p, 10)
	has(t, a, p)
	has(t, b, q)
}

func TestCopy(t *testing.T) {
	for _, n := range []int{0, 1, 2, 3, 4, 5, 8, 9, 100, 254, 255, 256} {
		q, p := filled(t, n)
		c, r := q.Copy(), maps.Clone(p)
		if c == nil || c == q {
			t.Fatal("the copy of", n, "is", c)
		}
		has(t, c, r)
		has(t, c.Copy(), r)
		has(t, q, p)
		// The copy goes on as the queue would, with as much room.
		sets(t, c, r, item{-7, 50}, item{1000, 50}, item{1001, 0}, item{1002, -1})
		dues(t, c, r, 49, 50)
		sets(t, c, r, item{1000, 1 << 40})
		has(t, c, r)
		has(t, q, p)
	}
}

// changes are calls that change a queue with the ids of items, or one that was changed so; each does it in another way.
func changes(t *testing.T) map[string]func(q *Queue, p plan) {
	return map[string]func(q *Queue, p plan){
		"Set new":       func(q *Queue, p plan) { sets(t, q, p, item{500, 0}, item{501, 7}, item{502, 1000}) },
		"Set earlier":   func(q *Queue, p plan) { sets(t, q, p, item{p.ordered()[len(p)-1], 0}) },
		"Set later":     func(q *Queue, p plan) { sets(t, q, p, item{p.ordered()[0], 1 << 40}) },
		"Drop first":    func(q *Queue, p plan) { drops(t, q, p, p.ordered()[0]) },
		"Drop last":     func(q *Queue, p plan) { drops(t, q, p, p.ordered()[len(p)-1]) },
		"Due one":       func(q *Queue, p plan) { dues(t, q, p, p[p.ordered()[0]]) },
		"Due all":       func(q *Queue, p plan) { dues(t, q, p, math.MaxInt64) },
		"Due, Set":      func(q *Queue, p plan) { dues(t, q, p, 50); sets(t, q, p, item{-7, 9}, item{600, 8}) },
		"Drop, Set":     func(q *Queue, p plan) { drops(t, q, p, -7); sets(t, q, p, item{-7, 77}) },
		"Due, Set, Due": func(q *Queue, p plan) { dues(t, q, p, 70); sets(t, q, p, item{0, 5}); dues(t, q, p, 5) },
	}
}

func TestCopyIsIndependent(t *testing.T) {
	for _, n := range []int{3, 4, 5, 7, 20, 253} {
		for one, change := range changes(t) {
			for two, other := range changes(t) {
				for _, changesCopy := range []bool{false, true} {
					changed, p := filled(t, n)
					left, r := changed.Copy(), maps.Clone(p)
					if changesCopy {
						changed, left = left, changed
					}
					change(changed, p)
					asked(t, changed, p)
					asked(t, left, r)
					// The other one goes on, behind the first one's back.
					other(left, r)
					has(t, changed, p)
					has(t, left, r)
					if t.Failed() {
						t.Fatal(n, one, two, changesCopy)
					}
				}
			}
		}
	}
}

// P8.2

func TestSetOfAnyIdAndTime(t *testing.T) {
	for _, id := range someIds {
		for _, at := range someTimes {
			q := New()
			if e := q.Set(id, at); e != api.OK {
				t.Errorf("Set(%d, %d) = %d", id, at, e)
			}
			if a, is := q.When(id); a != at || !is {
				t.Errorf("When(%d) = %d, %v, want %d", id, a, is, at)
			}
			if i, a, is := q.Next(); i != id || a != at || !is || q.Len() != 1 {
				t.Errorf("Next = %d, %d, %v, want %d, %d; Len %d", i, a, is, id, at, q.Len())
			}
			has(t, q, plan{id: at})
		}
	}
	// All of them, in one queue.
	for n := range someTimes {
		q, p := New(), plan{}
		for i, id := range someIds {
			sets(t, q, p, item{id, someTimes[(i*(n+1)+n)%len(someTimes)]})
			has(t, q, p)
		}
		if q.Len() != len(someIds) {
			t.Error("Len", q.Len())
		}
	}
}

func TestSetRefusesTimes(t *testing.T) {
	for _, n := range []int{0, 1, 3, 255, 256} {
		q, p := filled(t, n)
		for _, at := range noTimes {
			// Ids that are there, and such that are not.
			for _, id := range append(p.ordered(), someIds...) {
				if e := q.Set(id, at); e != api.ErrArg {
					t.Errorf("Set(%d, %d) of a queue with %d ids = %d", id, at, n, e)
				}
			}
			asked(t, q, p)
		}
		has(t, q, p)
	}
}

func TestTimesBesideTheEnds(t *testing.T) {
	for _, x := range []struct {
		at int64
		e  api.Errno
	}{{-2, api.ErrArg}, {-1, api.ErrArg}, {0, api.OK}, {1, api.OK}, {1_099_511_627_775, api.OK}, {1_099_511_627_776, api.OK}, {1_099_511_627_777, api.ErrArg}, {1_099_511_627_778, api.ErrArg}} {
		for _, before := range [][]item{nil, {{4, 7}}, {{5, 7}}} {
			q, p := made(t, before...)
			if e := q.Set(5, x.at); e != x.e {
				t.Errorf("Set(5, %d) = %d, want %d", x.at, e, x.e)
			}
			if x.e == api.OK {
				p[5] = x.at
			}
			has(t, q, p)
		}
	}
}

// An id that is set again has its last time, wherever it stood among the others, and wherever it has to stand.
func TestSetAgain(t *testing.T) {
	for _, id := range []int{-1, 0, 3, 5, 8, 100} {
		for before := range int64(9) {
			for after := range int64(9) {
				q, p := made(t, item{0, 2}, item{3, 2}, item{5, 4}, item{4, 4}, item{8, 6})
				sets(t, q, p, item{id, before}, item{id, after})
				want := 5
				if !slices.Contains([]int{0, 3, 5, 8}, id) {
					want = 6
				}
				if at, is := q.When(id); at != after || !is || q.Len() != want {
					t.Errorf("Set(%d, %d), Set(%d, %d): When %d, %v; Len %d", id, before, id, after, at, is, q.Len())
				}
				has(t, q, p)
				// None is left behind at the time that was set first.
				dues(t, q, p, min(before, after), max(before, after), 1<<40)
				has(t, q, p)
			}
		}
	}
}

func TestSetAgainOfAnIdThatIsAlone(t *testing.T) {
	for _, id := range someIds {
		q, p := New(), plan{}
		for _, at := range slices.Concat(someTimes, noTimes) {
			sets(t, q, p, item{id, at}, item{id, at})
			for _, back := range slices.Backward(someTimes) {
				sets(t, q, p, item{id, back})
				asked(t, q, p)
			}
		}
		if q.Len() != 1 {
			t.Error("Len", q.Len())
		}
		has(t, q, p)
	}
}

func TestRoom(t *testing.T) {
	q, p := New(), plan{}
	for i := range 256 {
		if e := q.Set(i*i, int64(i%17)); e != api.OK || q.Len() != i+1 {
			t.Fatal("Set", i, e, q.Len())
		}
		p[i*i] = int64(i % 17)
		if i >= 253 {
			has(t, q, p)
		}
	}
	for range 2 {
		for _, id := range []int{-1, 2, 65_026, 65_536, math.MinInt, math.MaxInt} {
			for _, at := range someTimes {
				if e := q.Set(id, at); e != api.ErrFull {
					t.Errorf("Set(%d, %d) of a full queue = %d", id, at, e)
				}
			}
		}
		has(t, q, p)
	}
	// An id that is there may be set again.
	for i := range 256 {
		if e := q.Set(i*i, int64(i%23)); e != api.OK {
			t.Errorf("Set(%d) again: %d", i*i, e)
		}
		p[i*i] = int64(i % 23)
	}
	has(t, q, p)
	if q.Len() != 256 {
		t.Error("Len", q.Len())
	}
}

func TestWhatLeavesMakesRoom(t *testing.T) {
	q, p := filled(t, 256)
	for i, x := range items(256) {
		drops(t, q, p, x.id)
		sets(t, q, p, item{1000 + i, x.at}, item{x.id, x.at})
		if _, is := q.When(x.id); is || q.Len() != 256 {
			t.Fatal("Set of one more than 256:", x, q.Len())
		}
	}
	has(t, q, p)
	for _, now := range []int64{0, 3, 50, 99, 100} {
		room := len(p)
		dues(t, q, p, now)
		room -= len(p)
		if room == 0 {
			t.Fatal("nothing was due at", now)
		}
		for i := range room {
			if e := q.Set(int(now+1)*10_000+i, 1000); e != api.OK {
				t.Fatal("Set", i, "of", room, "when", now, "is over:", e)
			}
			p[int(now+1)*10_000+i] = 1000
		}
		sets(t, q, p, item{-1000, 1000}, item{-1001, 0})
		has(t, q, p)
		if q.Len() != 256 {
			t.Fatal("Len", q.Len())
		}
	}
}

func TestErrorsOfSetAreInOrder(t *testing.T) {
	full, p := filled(t, 256)
	there := p.ordered()[100]
	for _, x := range []struct {
		q    *Queue
		id   int
		at   int64
		want api.Errno
	}{
		{nil, 1, -1, api.ErrNil},
		{&Queue{}, 1, 1<<40 + 1, api.ErrNil},
		{nil, 1, 1, api.ErrNil},
		{&Queue{}, 1, 1, api.ErrNil},
		{full, 5000, -1, api.ErrArg},
		{full, 5000, 1<<40 + 1, api.ErrArg},
		{full, there, -1, api.ErrArg},
		{full, there, 1<<40 + 1, api.ErrArg},
		{full, 5000, 0, api.ErrFull},
		{full, 5000, 1 << 40, api.ErrFull},
		{full, there, 0, api.OK},
		{full, there, 1 << 40, api.OK},
	} {
		if e := x.q.Set(x.id, x.at); e != x.want {
			t.Errorf("Set(%d, %d) = %d, want %d", x.id, x.at, e, x.want)
		}
	}
	p[there] = 1 << 40
	has(t, full, p)
}

// P8.3

func TestDrop(t *testing.T) {
	for _, n := range []int{0, 1, 2, 3, 10, 30, 255, 256} {
		for i := range n {
			q, p := filled(t, n)
			id := items(n)[i].id
			if !q.Drop(id) || q.Drop(id) || q.Len() != n-1 {
				t.Error("Drop", id, "of", n)
			}
			if at, is := q.When(id); at != 0 || is {
				t.Error("When", id, "of", n, "is", at, is)
			}
			delete(p, id)
			if n < 30 {
				has(t, q, p)
			}
		}
	}
}

func TestDropOfIdsThatAreNotThere(t *testing.T) {
	for _, list := range [][]item{nil, {{4, 0}}, {{4, 0}, {-4, 4}}, {{8, 5}, {4, 5}, {6, 5}, {-6, 5}}} {
		q, p := made(t, list...)
		for _, id := range append([]int{-8, -5, -3, 5, 7, 9}, someIds...) {
			if q.Drop(id) {
				t.Error("Drop", id, "of", list)
			}
		}
		has(t, q, p)
	}
}

func TestDropOfAll(t *testing.T) {
	for step := range 9 {
		q, p := filled(t, 256)
		for i := range 256 {
			// The step and 257 are without a common divisor: all ids are dropped, in another order for each step.
			id := items(256)[(i+1)*(step+1)%257-1].id
			if !q.Drop(id) {
				t.Fatal("Drop", id)
			}
			delete(p, id)
			if i%32 == 0 || i > 250 {
				has(t, q, p)
			}
		}
	}
}

// An id that was dropped, or returned by Due, is set as one that was never there.
func TestSetOfIdsThatLeft(t *testing.T) {
	for name, leave := range map[string]func(q *Queue, p plan){
		"Drop":      func(q *Queue, p plan) { drops(t, q, p, 5) },
		"Due":       func(q *Queue, p plan) { dues(t, q, p, 20) },
		"Due later": func(q *Queue, p plan) { dues(t, q, p, 1<<40) },
	} {
		for _, at := range []int64{0, 9, 10, 11, 19, 20, 21, 30, 40, 1 << 40} {
			q, p := made(t, item{5, 20}, item{4, 20}, item{6, 20}, item{1, 10}, item{2, 30})
			for range 3 {
				leave(q, p)
				if _, is := q.When(5); is {
					t.Fatal(name, "leaves the id there")
				}
				if q.Drop(5) {
					t.Error(name, "and Drop")
				}
				sets(t, q, p, item{5, at})
				has(t, q, p)
				dues(t, q, p, at-1)
				has(t, q, p)
				dues(t, q, p, at)
				if _, is := q.When(5); is {
					t.Error(name, "Set, Due leave the id there")
				}
				has(t, q, p)
				sets(t, q, p, item{5, 20}, item{3, 20}, item{2, 30})
			}
		}
	}
}

func TestWhenAndLen(t *testing.T) {
	q := New()
	for i, x := range []struct {
		call func()
		at   int64
		is   bool
		n    int
	}{
		{func() {}, 0, false, 0},
		{func() { q.Set(8, 4) }, 0, false, 1},
		{func() { q.Set(7, 0) }, 0, true, 2},
		{func() { q.Set(7, 9) }, 9, true, 2},
		{func() { q.Set(7, -9) }, 9, true, 2},
		{func() { q.Set(7, 9) }, 9, true, 2},
		{func() { q.Drop(6) }, 9, true, 2},
		{func() { q.Due(8) }, 9, true, 1},
		{func() { q.Set(7, 1<<40) }, 1 << 40, true, 1},
		{func() { q.Due(9) }, 1 << 40, true, 1},
		{func() { q.Drop(7) }, 0, false, 0},
		{func() { q.Set(7, 5) }, 5, true, 1},
		{func() { q.Due(5) }, 0, false, 0},
	} {
		x.call()
		if at, is := q.When(7); at != x.at || is != x.is || q.Len() != x.n {
			t.Error(i, "When", at, is, "Len", q.Len())
		}
		if at, is := q.When(-7); at != 0 || is {
			t.Error(i, "When -7", at, is)
		}
	}
}

// P8.4

func TestDueAtAnyTime(t *testing.T) {
	var list []item
	for i, at := range someTimes {
		// Several of them have equal times.
		list = append(list, item{i, at}, item{-i - 1, at}, item{1000 - i, at})
	}
	for _, now := range nows {
		q, p := made(t, list...)
		before := q.Len()
		l := q.Due(now)
		for i, id := range l {
			if p[id] > now {
				t.Errorf("Due(%d) returns %d, whose time is %d", now, id, p[id])
			}
			if i > 0 && (p[l[i-1]] > p[id] || p[l[i-1]] == p[id] && l[i-1] >= id) {
				t.Errorf("Due(%d) returns %d before %d", now, l[i-1], id)
			}
		}
		if q.Len() != before-len(l) {
			t.Errorf("Due(%d) returns %d of %d, and %d are left", now, len(l), before, q.Len())
		}
		if want := p.due(now); !slices.Equal(l, want) {
			t.Errorf("Due(%d) = %v, want %v", now, l, want)
		}
		has(t, q, p)
		dues(t, q, p, now)
		has(t, q, p)
	}
}

func TestDueOfATime(t *testing.T) {
	for _, at := range someTimes {
		for _, now := range nows {
			q := New()
			if e := q.Set(7, at); e != api.OK {
				t.Error("Set", at, e)
			}
			l := q.Due(now)
			if due := at <= now; due != slices.Equal(l, []int{7}) || !due && len(l) != 0 || due == (q.Len() == 1) {
				t.Errorf("Set(7, %d), Due(%d): %v; Len %d", at, now, l, q.Len())
			}
		}
	}
}

func TestDueAgain(t *testing.T) {
	for _, now := range nows {
		for _, then := range nows {
			q, p := filled(t, 20)
			sets(t, q, p, item{50, 1 << 40}, item{51, 1<<40 - 1}, item{52, 0}, item{-53, 1 << 32})
			dues(t, q, p, now)
			asked(t, q, p)
			// The same time, a smaller one and a greater one.
			dues(t, q, p, then)
			asked(t, q, p)
			dues(t, q, p, then, now)
			has(t, q, p)
		}
	}
}

func TestNext(t *testing.T) {
	q := New()
	for i, x := range []struct {
		call func()
		id   int
		at   int64
		is   bool
	}{
		{func() {}, 0, 0, false},
		{func() { q.Set(5, 20) }, 5, 20, true},
		{func() { q.Set(9, 20) }, 5, 20, true},
		{func() { q.Set(-3, 20) }, -3, 20, true},
		{func() { q.Set(9, 19) }, 9, 19, true},
		{func() { q.Set(9, 21) }, -3, 20, true},
		{func() { q.Set(math.MinInt, 20) }, math.MinInt, 20, true},
		{func() { q.Set(math.MaxInt, 0) }, math.MaxInt, 0, true},
		{func() { q.Due(-1) }, math.MaxInt, 0, true},
		{func() { q.Due(0) }, math.MinInt, 20, true},
		{func() { q.Drop(math.MinInt) }, -3, 20, true},
		{func() { q.Drop(5) }, -3, 20, true},
		{func() { q.Due(20) }, 9, 21, true},
		{func() { q.Set(0, 0) }, 0, 0, true},
		{func() { q.Due(21) }, 0, 0, false},
	} {
		x.call()
		for range 2 {
			if id, at, is := q.Next(); id != x.id || at != x.at || is != x.is {
				t.Error(i, "Next", id, at, is, "want", x)
			}
		}
	}
}

// Of equal times, and of different ones, with the least and the greatest ids: the difference of two ids may be no int.
func TestOrder(t *testing.T) {
	for _, at := range someTimes {
		q, p := New(), plan{}
		for _, id := range slices.Backward(someIds) {
			sets(t, q, p, item{id, at})
		}
		has(t, q, p)
		if l := q.Due(at); !slices.Equal(l, someIds) {
			t.Errorf("Due(%d) = %v", at, l)
		}
	}
	for _, a := range someIds {
		for _, b := range someIds {
			for _, at := range []int64{0, 1, 1 << 40} {
				for _, other := range []int64{0, 1, 1 << 40} {
					q, p := made(t, item{a, at}, item{b, other})
					has(t, q, p)
				}
			}
		}
	}
}

// P8.5

// Each id that was set is returned once, unless it is dropped, and in time; it is never returned too early.
func TestOnce(t *testing.T) {
	for _, places := range []uint64{3, 20, 400} {
		q, waiting, now := New(), map[int]int64{}, int64(0)
		turns(10_000, func(n uint64) {
			id, at := int(n/8%places), now+int64(n/8192%40)-10
			switch n % 8 {
			case 0:
				if _, is := waiting[id]; q.Drop(id) != is {
					t.Fatal("Drop", id, !is)
				}
				delete(waiting, id)
			case 1, 2:
				now += int64(n / 8192 % 5)
				for _, id := range q.Due(now) {
					if at, is := waiting[id]; !is || at > now {
						t.Fatal("Due", now, "returns", id, at, is)
					}
					delete(waiting, id)
				}
				for id, at := range waiting {
					if at <= now {
						t.Fatal("Due", now, "does not return", id, at)
					}
				}
			default:
				if q.Set(id, at) == api.OK {
					waiting[id] = at
				}
			}
			if q.Len() != len(waiting) {
				t.Fatal("Len", q.Len(), "want", len(waiting))
			}
		})
		if len(q.Due(math.MaxInt64)) != len(waiting) || len(q.Due(math.MaxInt64)) != 0 || now < 1000 {
			t.Error("at the end:", q.Len(), len(waiting), now)
		}
	}
}

func TestDueInSteps(t *testing.T) {
	start := func() *Queue {
		q, p := filled(t, 100)
		for i, at := range someTimes {
			sets(t, q, p, item{500 + i, at}, item{-500 + i, at})
		}
		return q
	}
	for i, then := range nows {
		once := start()
		want := once.Due(then)
		for _, now := range nows[:i+1] {
			for _, between := range []int64{now, max(now, min(now/2+then/2, then)), then} {
				q := start()
				l := slices.Concat(q.Due(now), q.Due(between), q.Due(then))
				if !slices.Equal(l, want) || q.Len() != once.Len() {
					t.Errorf("Due(%d), Due(%d), Due(%d) return %v, want %v", now, between, then, l, want)
				}
			}
		}
	}
	// Step by step, through all times.
	q, once := start(), start()
	var l []int
	for now := range int64(300) {
		l = append(l, q.Due(now)...)
	}
	if want := once.Due(299); !slices.Equal(l, want) || q.Len() != once.Len() {
		t.Errorf("Due from 0 to 299 returns %v, want %v", l, want)
	}
}

// P8.6

// permuted calls f with a list in all orders.
func permuted(list []item, f func([]item)) {
	var next func(fixed int)
	next = func(fixed int) {
		if fixed == len(list) {
			f(list)
			return
		}
		for i := fixed; i < len(list); i++ {
			list[fixed], list[i] = list[i], list[fixed]
			next(fixed + 1)
			list[fixed], list[i] = list[i], list[fixed]
		}
	}
	next(0)
}

func TestTheOrderOfSettingDoesNotMatter(t *testing.T) {
	for _, list := range [][]item{
		{{7, 10}, {3, 10}, {5, 4}, {-2, 10}, {9, 4}, {1, 12}},
		{{5, 1}, {4, 2}, {3, 3}, {2, 4}, {1, 5}, {0, 6}},
		{{0, 8}, {1, 8}, {-1, 8}, {2, 8}, {-2, 8}, {math.MinInt, 8}},
		{{math.MaxInt, 0}, {math.MinInt, 1 << 40}, {0, 1 << 40}, {1, 0}, {-1, 0}, {2, 1}},
	} {
		want := func() plan { _, p := made(t, list...); return p }()
		permuted(slices.Clone(list), func(l []item) {
			q := New()
			for _, x := range l {
				if e := q.Set(x.id, x.at); e != api.OK {
					t.Error("Set", x, e)
				}
			}
			has(t, q, want)
			if t.Failed() {
				t.Fatal(l)
			}
		})
	}
}

func TestTheOrderOfSettingManyDoesNotMatter(t *testing.T) {
	list := items(256)
	_, want := made(t, list...)
	for _, step := range []int{1, 3, 5, 77, 127, 255} {
		for _, detour := range []bool{false, true} {
			q := New()
			for i := range list {
				x := list[i*step%256]
				// What was set before does not matter, either.
				if detour && (q.Set(x.id, 101-x.at) != api.OK || i%3 == 0 && !q.Drop(x.id)) {
					t.Error("Set, Drop", x)
				}
				if e := q.Set(x.id, x.at); e != api.OK {
					t.Error("Set", x, e)
				}
			}
			has(t, q, want)
		}
	}
}

// P8.7

func TestQuestionsAndRefusedCallsChangeNothing(t *testing.T) {
	for _, n := range []int{0, 1, 2, 7, 255, 256} {
		q, p := filled(t, n)
		for range 2 {
			for _, id := range append(p.ordered(), someIds...) {
				// A question about an id that is not there does not make room for it.
				q.When(id)
				q.Set(id, -1)
				q.Set(id, 1<<40+1)
				if _, is := p[id]; n == 256 && !is && q.Set(id, 5) != api.ErrFull {
					t.Error("Set", id, "of a full queue")
				}
			}
			for range 3 {
				q.Next()
				q.Len()
			}
			c := q.Copy()
			c.Drop(-7)
			c.Due(40)
			c.Set(-8, 3)
			// What is not there is not dropped, and what is not due does not leave.
			q.Drop(-1 << 40)
			q.Due(-1)
			asked(t, q, p)
		}
		has(t, q, p)
		dues(t, q, p, 10, 20, 100)
		has(t, q, p)
	}
}

// All short sequences of calls, from queues with few ids and from such as are nearly full.
func TestShortSequences(t *testing.T) {
	calls := []func(q *Queue, p plan){
		func(q *Queue, p plan) { drops(t, q, p, -3) },
		func(q *Queue, p plan) { drops(t, q, p, 500) },
		func(q *Queue, p plan) { dues(t, q, p, 0) },
		func(q *Queue, p plan) { dues(t, q, p, 1) },
		func(q *Queue, p plan) { dues(t, q, p, 200) },
		func(q *Queue, p plan) { clear(q.Copy().Due(1)); sets(t, q, p, item{4, -1}) },
	}
	for _, id := range []int{-3, 4, 500} {
		for _, at := range []int64{0, 1, 200} {
			calls = append(calls, func(q *Queue, p plan) { sets(t, q, p, item{id, at}) })
		}
	}
	for _, start := range []struct{ ids, calls int }{{0, 4}, {3, 4}, {254, 2}, {255, 2}, {256, 2}} {
		all := 1
		for range start.calls {
			all *= len(calls)
		}
		for n := range all {
			q, p := filled(t, start.ids)
			for range start.calls {
				calls[n%len(calls)](q, p)
				n /= len(calls)
			}
			has(t, q, p)
			if t.Failed() {
				t.Fatal(start, n)
			}
		}
	}
}

func TestLongSequences(t *testing.T) {
	for _, x := range []struct {
		ids  uint64 // how many there are
		ends uint64 // in how many turns one call of Due stands, so that queues become full
	}{{5, 4}, {40, 20}, {300, 100}, {300, 5000}} {
		q, p, most := New(), plan{}, 0
		turns(5000, func(n uint64) {
			id, at := int(n/16%x.ids)-20, int64(n/65536%64)
			switch {
			case n/256%x.ends == 0:
				dues(t, q, p, at/2)
			case n%16 < 3:
				drops(t, q, p, id)
			default:
				sets(t, q, p, item{id, at - 1})
			}
			most = max(most, len(p))
			if i, a, is := q.Next(); n%97 == 0 {
				has(t, q, p)
			} else if id, at, there := p.next(); i != id || a != at || is != there || q.Len() != len(p) {
				t.Errorf("Next: %d, %d, %v, want %d, %d, %v; Len %d, want %d", i, a, is, id, at, there, q.Len(), len(p))
			}
			if t.Failed() {
				t.FailNow()
			}
		})
		has(t, q, p)
		if x.ends == 5000 && most != 256 {
			t.Error("the queue was never full:", most)
		}
	}
}

// R2

func TestQueuesThatAreNotValid(t *testing.T) {
	for name, q := range map[string]*Queue{"nil": nil, "zero": {}, "new": new(Queue)} {
		for range 2 {
			for _, id := range someIds {
				// ErrNil comes before what is wrong with the time.
				for _, at := range slices.Concat(someTimes, noTimes) {
					if e := q.Set(id, at); e != api.ErrNil {
						t.Error(name, "Set", id, at, e)
					}
				}
				if q.Drop(id) {
					t.Error(name, "Drop", id)
				}
				if at, is := q.When(id); at != 0 || is {
					t.Error(name, "When", id, at, is)
				}
			}
			for _, now := range nows {
				if l := q.Due(now); l != nil {
					t.Error(name, "Due", now, l)
				}
			}
			if id, at, is := q.Next(); id != 0 || at != 0 || is {
				t.Error(name, "Next", id, at, is)
			}
			if n := q.Len(); n != 0 {
				t.Error(name, "Len", n)
			}
			if c := q.Copy(); c != nil {
				t.Error(name, "Copy", c)
			}
		}
	}
}

// R4

func TestResultsAreNewMemory(t *testing.T) {
	for n := 1; n <= 40; n++ {
		for _, now := range []int64{0, 10, 30, 60, 100} {
			q, p := filled(t, n)
			c := q.Copy()
			a, b := q.Due(now), c.Due(now)
			want := slices.Clone(b)
			p.due(now)
			clear(a[:cap(a)])
			_ = append(a[:0], 9, 8, 7)
			if !slices.Equal(b, want) {
				t.Error("two results share memory:", b, want)
			}
			has(t, q, p)
			has(t, c, p)
			// What comes later does not change what was returned.
			sets(t, q, p, item{-7, 5}, item{700, 1}, item{701, 0})
			dues(t, q, p, 4)
			sets(t, c, maps.Clone(p), item{700, 1}, item{701, 0})
			c.Due(100)
			if !slices.Equal(b, want) {
				t.Error("a result is changed by later calls:", b, want)
			}
			has(t, q, p)
		}
	}
}

// What an assignment of the struct made is the same queue: its ids and their times stay together.
func TestAssignedQueues(t *testing.T) {
	q, p := filled(t, 5)
	x := *q
	sets(t, q, p, item{50, 3}, item{-7, 9})
	drops(t, &x, p, 50)
	sets(t, &x, p, item{51, 2})
	dues(t, q, p, 2)
	has(t, q, p)
	has(t, &x, p)
	has(t, x.Copy(), p)
}

// R8

func TestEqualCallsReturnEqualResults(t *testing.T) {
	for _, n := range []int{3, 4, 100, 256} {
		for name, change := range changes(t) {
			a, p := filled(t, n)
			change(a, p)
			for range 5 {
				b, r := filled(t, n)
				change(b, r)
				if l, m := a.Copy().Due(90), b.Due(90); !slices.Equal(l, m) {
					t.Error(name, l, m)
				}
			}
			has(t, a, p)
		}
	}
}

// The examples of the chapter.

func TestExamples(t *testing.T) {
	q := New()
	for _, x := range []item{{7, 10}, {3, 10}, {5, 4}} {
		if e := q.Set(x.id, x.at); e != api.OK {
			t.Error("Set", x, e)
		}
	}
	if id, at, is := q.Next(); id != 5 || at != 4 || !is {
		t.Error("Next", id, at, is)
	}
	for i, want := range [][]int{{5}, {}, {3, 7}} {
		if l := q.Due([]int64{9, 9, 10}[i]); !slices.Equal(l, want) {
			t.Error("Due", i, l)
		}
	}
	for _, at := range []int64{20, 30} {
		if e := q.Set(1, at); e != api.OK {
			t.Error("Set", at, e)
		}
	}
	if l := q.Due(20); len(l) != 0 {
		t.Error("Due 20", l)
	}
	if at, is := q.When(1); at != 30 || !is {
		t.Error("When", at, is)
	}
	if is, again := q.Drop(1), q.Drop(1); !is || again {
		t.Error("Drop", is, again)
	}
	if e := q.Set(1, -1); e != api.ErrArg {
		t.Error("Set -1", e)
	}
}
