package leases

import (
	"math"
	"slices"
	"testing"

	"estray/api"
)

const (
	last    = api.MaxGen
	end     = uint64(last)
	latest  = int64(1) << 40
	longest = int64(1) << 20
)

var (
	// sizes are the least and the greatest ones, and some between.
	sizes = []int{1, 2, 3, 32, 63, 64}
	// noSizes are none; some would be sizes in fewer bits, and some are those of tables of slots.
	noSizes = []int{math.MinInt, -1<<32 + 1, -64, -2, -1, 0, 65, 66, 128, 255, 256, 257, 1<<32 + 1, 1<<32 + 64, math.MaxInt}
	// firsts are the first generations, the last ones, and some between.
	firsts = []uint32{1, 2, 7, 1 << 31, last - 2, last - 1, last}
	// spans are the least and the greatest ones, and some between.
	spans = []int64{1, 2, 10, 65_535, 65_536, longest - 1, longest}
	// noSpans are none; some would be spans in fewer bits, or are times, and some make sums of 64 bits overflow.
	noSpans = []int64{math.MinInt64, -1<<32 + 5, -longest, -2, -1, 0, longest + 1, longest + 2, 1 << 32, 1<<32 + 5, latest, latest + 1, math.MaxInt64 - latest, math.MaxInt64 - 1, math.MaxInt64}
	// times are the first and the last ones, and some between.
	times = []int64{0, 1, 2, 100, 1 << 31, 1 << 32, 1<<32 + 1, latest - longest - 1, latest - longest, latest - longest + 1, latest - 2, latest - 1, latest}
	// noTimes are none; some would be times in fewer bits, and some make sums of 64 bits overflow.
	noTimes = []int64{math.MinInt64, math.MinInt64 + 1, -latest, -1<<32 + 5, -longest, -2, -1, latest + 1, latest + 2, 2 * latest, math.MaxInt64 - longest, math.MaxInt64 - 1, math.MaxInt64}
	// otherIds are ids that no desk has.
	otherIds = []int{math.MinInt, -1 << 32, -64, -2, -1, 64, 65, 255, 256, 1 << 32, 1<<32 + 1, math.MaxInt}
	// otherKinds are all that are possible but that of a lease, and such as are not possible.
	otherKinds = []int{math.MinInt, -3, -1, 0, 1, 2, 4, 259, 1<<32 + 3, math.MaxInt}
)

// id returns a lease by its id and its generation.
func id(n int, gen uint32) api.Outer { return api.Outer{Kind: 3, Id: n, Gen: gen} }

// aSpan and aTime say again which numbers are spans and times: with the numbers of the document.
func aSpan(n int64) bool { return 1 <= n && n <= 1_048_576 }
func aTime(n int64) bool { return 0 <= n && n <= 1_099_511_627_776 }

// place is what an id has to be: it is retired if its generation is beyond the last one.
type place struct {
	gen   uint64
	taken bool
	until int64
}

// plan is what a desk has to be: the chapter's words, written out a second time.
type plan []place

func planned(size int, first uint32) plan { return slices.Repeat(plan{{gen: uint64(first)}}, size) }

// grantable and renewable say what Grant and Renew return, and grant and renew what they change, too.
func (p plan) grantable(ticks, now int64) (api.Outer, api.Errno) {
	switch {
	case !aSpan(ticks) || !aTime(now):
		return api.Outer{}, api.ErrArg
	// Not as a sum, so that the plan does not overflow where the desk might.
	case ticks > latest-now:
		return api.Outer{}, api.ErrOver
	}
	for i, x := range p {
		if !x.taken && x.gen <= end {
			return id(i, uint32(x.gen)), api.OK
		}
	}
	return api.Outer{}, api.ErrFull
}

func (p plan) grant(ticks, now int64) (api.Outer, api.Errno) {
	o, e := p.grantable(ticks, now)
	if e == api.OK {
		p[o.Id].taken, p[o.Id].until = true, now+ticks
	}
	return o, e
}

// check returns the first error that a resource alone brings about.
func (p plan) check(o api.Outer) api.Errno {
	switch {
	case o.Kind != 3 || o.Id < 0 || o.Id > 63 || o.Gen == 0:
		return api.ErrArg
	case o.Id >= len(p):
		return api.ErrRange
	case !p[o.Id].taken || p[o.Id].gen != uint64(o.Gen):
		return api.ErrStale
	}
	return api.OK
}

func (p plan) renewable(o api.Outer, ticks, now int64) api.Errno {
	e := p.check(o)
	switch {
	case e == api.ErrArg || !aSpan(ticks) || !aTime(now):
		return api.ErrArg
	case e != api.OK:
		return e
	case p[o.Id].until <= now:
		return api.ErrState
	case ticks > latest-now:
		return api.ErrOver
	}
	return api.OK
}

func (p plan) renew(o api.Outer, ticks, now int64) api.Errno {
	e := p.renewable(o, ticks, now)
	if e == api.OK {
		p[o.Id].until = now + ticks
	}
	return e
}

func (p plan) giveBack(o api.Outer) api.Errno {
	e := p.check(o)
	if e == api.OK {
		p[o.Id] = place{gen: p[o.Id].gen + 1}
	}
	return e
}

func (p plan) until(o api.Outer) (int64, api.Errno) {
	e := p.check(o)
	if e != api.OK {
		return 0, e
	}
	return p[o.Id].until, e
}

func (p plan) over(o api.Outer, now int64) (bool, api.Errno) {
	e := p.check(o)
	switch {
	case e == api.ErrArg || !aTime(now):
		return false, api.ErrArg
	case e != api.OK:
		return false, e
	}
	return !(now < p[o.Id].until), e
}

func (p plan) all() []api.Outer {
	var all []api.Outer
	for i, x := range p {
		if x.taken {
			all = append(all, id(i, uint32(x.gen)))
		}
	}
	return all
}

// grants, renews and returns change a desk and its plan.
func grants(t *testing.T, d *Desk, p plan, ticks, now int64) {
	t.Helper()
	o, e := d.Grant(ticks, now)
	if want, wantE := p.grant(ticks, now); o != want || e != wantE {
		t.Errorf("Grant(%d, %d) = %v, %d, want %v, %d", ticks, now, o, e, want, wantE)
	}
}

func renews(t *testing.T, d *Desk, p plan, o api.Outer, ticks, now int64) {
	t.Helper()
	if e, want := d.Renew(o, ticks, now), p.renew(o, ticks, now); e != want {
		t.Errorf("Renew(%v, %d, %d) = %d, want %d", o, ticks, now, e, want)
	}
}

func returns(t *testing.T, d *Desk, p plan, leases ...api.Outer) {
	t.Helper()
	for _, o := range leases {
		if e, want := d.Return(o), p.giveBack(o); e != want {
			t.Errorf("Return(%v) = %d, want %d", o, e, want)
		}
	}
}

// made returns a desk of New, and its plan.
func made(t *testing.T, size int, first uint32) (*Desk, plan) {
	t.Helper()
	d, e := New(size, first)
	if e != api.OK || d == nil {
		t.Fatalf("New(%d, %d) = %v, %d", size, first, d, e)
	}
	return d, planned(size, first)
}

// filled returns a desk all of whose ids are granted, each until a time of its own (the id 0 until 1000), and its plan.
func filled(t *testing.T, size int, first uint32) (*Desk, plan) {
	t.Helper()
	d, p := made(t, size, first)
	for i := range size {
		grants(t, d, p, 900-int64(i), 100+int64(i)*8)
	}
	return d, p
}

// mixed returns a desk, and its plan, with an id in each state: granted in the last generation and in the one before it, until the last time, until different times and until equal ones; retired; free after a lease was returned; and free from the start.
func mixed(t *testing.T) (*Desk, plan) {
	t.Helper()
	d, p := made(t, 8, last-1)
	for i := range int64(7) {
		grants(t, d, p, 10+i, 1000)
	}
	returns(t, d, p, id(0, last-1), id(1, last-1), id(2, last-1), id(4, last-1))
	grants(t, d, p, 40, 2000)
	grants(t, d, p, 1, 2000)
	grants(t, d, p, 2, 2000)
	grants(t, d, p, 1, latest-1)
	returns(t, d, p, id(1, last), id(2, last), id(6, last-1))
	renews(t, d, p, id(5, last-1), 13, 1000)
	want := plan{{end, true, 2040}, {gen: end + 1}, {gen: end + 1}, {end - 1, true, 1013}, {end, true, latest}, {end - 1, true, 1013}, {gen: end}, {gen: end - 1}}
	if !slices.Equal(p, want) {
		t.Fatal(p)
	}
	return d, p
}

// names returns resources, possible ones and others, that may be taken for those of a desk.
func names(p plan) []api.Outer {
	var list []api.Outer
	size := len(p)
	for i := range 66 {
		gen := uint32(1)
		if i < size {
			gen = uint32(p[i].gen)
		}
		for _, g := range []uint32{0, 1, gen - 2, gen - 1, gen, gen + 1, last} {
			list = append(list, id(i, g))
		}
	}
	for _, i := range otherIds {
		list = append(list, id(i, 0), id(i, 1), id(i, last-1), id(i, last))
	}
	for _, kind := range otherKinds {
		for _, i := range append([]int{0, size - 1, size, 63}, otherIds...) {
			list = append(list, api.Outer{Kind: kind, Id: i}, api.Outer{Kind: kind, Id: i, Gen: 1}, api.Outer{Kind: kind, Id: i, Gen: last})
		}
		for _, o := range p.all() {
			list = append(list, api.Outer{Kind: kind, Id: o.Id, Gen: o.Gen})
		}
	}
	return append(list, api.Outer{})
}

// listed asks which leases there are, and until when they are granted.
func listed(t *testing.T, d *Desk, p plan) {
	t.Helper()
	all := p.all()
	if l := d.All(); !slices.Equal(l, all) {
		t.Errorf("All: %v, want %v", l, all)
	}
	if n := d.Len(); n != len(all) {
		t.Errorf("Len: %d, want %d", n, len(all))
	}
	for _, o := range all {
		until := p[o.Id].until
		if at, e := d.Until(o); at != until || e != api.OK {
			t.Errorf("Until(%v) = %d, %d, want %d", o, at, e, until)
		}
		for _, now := range []int64{0, until - 1, until, min(until+1, latest), latest} {
			if over, e := d.Over(o, now); over != (now >= until) || e != api.OK {
				t.Errorf("Over(%v, %d) = %t, %d, until %d", o, now, over, e, until)
			}
		}
	}
}

// isOf asks all questions about a resource, and makes the calls with it that a desk has to refuse.
func isOf(t *testing.T, d *Desk, p plan, o api.Outer) {
	t.Helper()
	until, e := p.until(o)
	if at, f := d.Until(o); at != until || f != e {
		t.Errorf("Until(%v) = %d, %d, want %d, %d", o, at, f, until, e)
	}
	for _, now := range []int64{-1, 0, until - 1, until, latest, latest + 1} {
		want, wantE := p.over(o, now)
		if over, f := d.Over(o, now); over != want || f != wantE {
			t.Errorf("Over(%v, %d) = %t, %d, want %t, %d", o, now, over, f, want, wantE)
		}
		for _, ticks := range []int64{0, 1, longest, longest + 1} {
			if p.renewable(o, ticks, now) != api.OK {
				renews(t, d, p, o, ticks, now)
			}
		}
	}
	if e != api.OK {
		returns(t, d, p, o)
	}
}

// is asks all questions about a desk, and makes the calls that it has to refuse.
func is(t *testing.T, d *Desk, p plan) {
	t.Helper()
	listed(t, d, p)
	for _, o := range names(p) {
		isOf(t, d, p, o)
	}
	for _, now := range []int64{-1, 0, latest - 1, latest, latest + 1} {
		for _, ticks := range []int64{-1, 0, 1, 2, longest, longest + 1} {
			if _, e := p.grantable(ticks, now); e != api.OK {
				grants(t, d, p, ticks, now)
			}
		}
	}
	listed(t, d, p)
}

// has asks all questions about a desk, and has a copy of it go on until nothing more can be granted, and then until nothing is.
func has(t *testing.T, d *Desk, p plan) {
	t.Helper()
	is(t, d, p)
	c, q := d.Copy(), slices.Clone(p)
	for i := range int64(len(p)) + 1 {
		grants(t, c, q, 1+i*3, 500)
	}
	for _, o := range q.all() {
		renews(t, c, q, o, 70+int64(o.Id), 500)
	}
	listed(t, c, q)
	for _, o := range slices.Backward(q.all()) {
		returns(t, c, q, o, o)
	}
	grants(t, c, q, 5, 5)
	listed(t, c, q)
	listed(t, d, p)
}

// turns makes calls, each with a number by a rule that repeats only after many of them.
func turns(count int, call func(n uint64)) {
	n := uint64(1)
	for range count {
		n = n*6364136223846793005 + 1442695040888963407
		call(n >> 33)
	}
}

// orders calls f with the numbers from 0 on in all orders.
func orders(n int, f func([]int)) {
	list := make([]int, n)
	for i := range list {
		list[i] = i
	}
	var next func(fixed int)
	next = func(fixed int) {
		if fixed == n {
			f(list)
		}
		for i := fixed; i < n; i++ {
			list[fixed], list[i] = list[i], list[fixed]
			next(fixed + 1)
			list[fixed], list[i] = list[i], list[fixed]
		}
	}
	next(0)
}

// P11.1

func TestNew(t *testing.T) {
	for _, size := range sizes {
		for _, first := range firsts {
			d, p := made(t, size, first)
			if n, l := d.Len(), d.All(); n != 0 || len(l) != 0 {
				t.Errorf("New(%d, %d): Len %d, All %v", size, first, n, l)
			}
			has(t, d, p)
		}
	}
}

// New makes a desk of exactly so many ids, in this first generation.
func TestSizesOfNew(t *testing.T) {
	for size := 1; size <= 64; size++ {
		for _, first := range firsts {
			d, _ := made(t, size, first)
			for i := range size {
				if o, e := d.Grant(5, 5); o != id(i, first) || e != api.OK {
					t.Errorf("New(%d, %d), Grant = %v, %d, want %d", size, first, o, e, i)
				}
			}
			if o, e := d.Grant(5, 5); o != (api.Outer{}) || e != api.ErrFull {
				t.Errorf("New(%d, %d), Grant = %v, %d", size, first, o, e)
			}
		}
	}
}

func TestNewRefuses(t *testing.T) {
	refused := func(size int, first uint32) {
		t.Helper()
		if d, e := New(size, first); d != nil || e != api.ErrArg {
			t.Errorf("New(%d, %d) = %v, %d", size, first, d, e)
		}
	}
	for _, size := range noSizes {
		for _, first := range append([]uint32{0}, firsts...) {
			refused(size, first)
		}
	}
	for size := 1; size <= 64; size++ {
		refused(size, 0)
	}
}

func TestNewDesksAreIndependent(t *testing.T) {
	a, p := made(t, 3, 5)
	b, q := made(t, 3, 5)
	grants(t, a, p, 16, 1)
	grants(t, a, p, 17, 2)
	returns(t, a, p, id(0, 5))
	has(t, a, p)
	has(t, b, q)
	grants(t, b, q, 41, 7)
	renews(t, b, q, id(0, 5), 4, 8)
	grants(t, b, q, 9, 3)
	has(t, a, p)
	has(t, b, q)
}

func TestCopy(t *testing.T) {
	for _, size := range sizes {
		for _, first := range firsts {
			d, p := made(t, size, first)
			has(t, d.Copy(), p)
			d, p = filled(t, size, first)
			has(t, d.Copy(), p)
			returns(t, d, p, id(size/2, first))
			renews(t, d, p, id(0, first), 77, 101)
			c := d.Copy()
			if c == nil || c == d {
				t.Fatal("the copy is", c)
			}
			has(t, c, p)
			has(t, c.Copy(), p)
			has(t, d, p)
		}
	}
	d, p := mixed(t)
	has(t, d.Copy(), p)
}

// changes are calls that change a desk of mixed, each in another way.
func changes(t *testing.T) map[string]func(d *Desk, p plan) {
	return map[string]func(d *Desk, p plan){
		"Grant": func(d *Desk, p plan) { grants(t, d, p, 70, 3000) },
		"Grant all": func(d *Desk, p plan) {
			for now := range int64(3) {
				grants(t, d, p, 60, now)
			}
		},
		"Renew":           func(d *Desk, p plan) { renews(t, d, p, id(3, last-1), 500, 1012) },
		"Renew for less":  func(d *Desk, p plan) { renews(t, d, p, id(4, last), 1, 0) },
		"Return":          func(d *Desk, p plan) { returns(t, d, p, id(3, last-1)) },
		"Return the last": func(d *Desk, p plan) { returns(t, d, p, id(0, last)) },
		"Return, Grant":   func(d *Desk, p plan) { returns(t, d, p, id(4, last), id(3, last-1)); grants(t, d, p, 55, 9) },
		"the same time":   func(d *Desk, p plan) { returns(t, d, p, id(3, last-1)); grants(t, d, p, 13, 1000) },
		"Return all":      func(d *Desk, p plan) { returns(t, d, p, p.all()...) },
		"all of them": func(d *Desk, p plan) {
			for now := range int64(8) {
				grants(t, d, p, 40+now, now)
				grants(t, d, p, 25, now)
				for _, o := range p.all() {
					renews(t, d, p, o, 90-now, now+1)
				}
				returns(t, d, p, p.all()...)
			}
		},
	}
}

func TestCopyIsIndependent(t *testing.T) {
	for one, change := range changes(t) {
		for two, other := range changes(t) {
			for _, changesCopy := range []bool{false, true} {
				changed, p := mixed(t)
				left, q := changed.Copy(), slices.Clone(p)
				if changesCopy {
					changed, left = left, changed
				}
				if change(changed, p); slices.Equal(p, q) {
					t.Error(one, "changes nothing")
				}
				listed(t, changed, p)
				listed(t, left, q)
				// The other one goes on, behind the first one's back.
				other(left, q)
				has(t, changed, p)
				has(t, left, q)
				if t.Failed() {
					t.Fatal(one, two, changesCopy)
				}
			}
		}
	}
}

// P11.2

func TestGrant(t *testing.T) {
	d, _ := made(t, 4, 9)
	for i := range 4 {
		if o, e := d.Grant(5+int64(i), 10); o != id(i, 9) || e != api.OK {
			t.Error("Grant", i, o, e)
		}
		if at, e := d.Until(id(i, 9)); at != 15+int64(i) || e != api.OK {
			t.Error("Until", i, at, e)
		}
	}
	for range 3 {
		if o, e := d.Grant(5, 10); o != (api.Outer{}) || e != api.ErrFull {
			t.Error("Grant, when all ids are taken:", o, e)
		}
	}
}

// All spans at all times, also those that end beyond the last time.
func TestGrantOfAnySpan(t *testing.T) {
	for _, ticks := range spans {
		for _, now := range times {
			d, p := made(t, 2, 1)
			want, wantE, until := id(0, 1), api.OK, now+ticks
			if until > latest {
				want, wantE = api.Outer{}, api.ErrOver
			}
			if o, e := d.Grant(ticks, now); o != want || e != wantE {
				t.Errorf("Grant(%d, %d) = %v, %d, want %v, %d", ticks, now, o, e, want, wantE)
			}
			if wantE == api.OK {
				p[0] = place{1, true, until}
			}
			has(t, d, p)
		}
	}
}

func TestGrantBesideTheEnds(t *testing.T) {
	for _, x := range []struct {
		ticks, now int64
		e          api.Errno
	}{
		{-1, 5, api.ErrArg}, {0, 5, api.ErrArg}, {1, 5, api.OK}, {2, 5, api.OK},
		{longest - 1, 5, api.OK}, {longest, 5, api.OK}, {longest + 1, 5, api.ErrArg}, {longest + 2, 5, api.ErrArg},
		{5, -2, api.ErrArg}, {5, -1, api.ErrArg}, {5, 0, api.OK}, {5, 1, api.OK},
		{5, latest - 6, api.OK}, {5, latest - 5, api.OK}, {5, latest - 4, api.ErrOver}, {5, latest, api.ErrOver}, {5, latest + 1, api.ErrArg},
		{1, latest - 1, api.OK}, {1, latest, api.ErrOver}, {1, latest + 1, api.ErrArg}, {0, latest, api.ErrArg}, {0, latest + 1, api.ErrArg},
		{longest, latest - longest, api.OK}, {longest, latest - longest + 1, api.ErrOver}, {longest, latest, api.ErrOver},
		{longest + 1, latest - longest, api.ErrArg}, {longest + 1, latest, api.ErrArg},
	} {
		d, _ := made(t, 1, 3)
		want := id(0, 3)
		if x.e != api.OK {
			want = api.Outer{}
		}
		if o, e := d.Grant(x.ticks, x.now); o != want || e != x.e {
			t.Errorf("Grant(%d, %d) = %v, %d, want %d", x.ticks, x.now, o, e, x.e)
		}
	}
}

// Numbers that are not possible are refused, whether there is room or not, and whether the sum is a time or not.
func TestGrantRefusesNumbers(t *testing.T) {
	for name, start := range map[string]func() (*Desk, plan){
		"empty":   func() (*Desk, plan) { return made(t, 2, 1) },
		"full":    func() (*Desk, plan) { return filled(t, 2, 1) },
		"mixed":   func() (*Desk, plan) { return mixed(t) },
		"retired": func() (*Desk, plan) { d, p := filled(t, 2, last); returns(t, d, p, p.all()...); return d, p },
	} {
		d, p := start()
		refused := func(ticks, now int64, want api.Errno) {
			t.Helper()
			if o, e := d.Grant(ticks, now); o != (api.Outer{}) || e != want {
				t.Errorf("Grant(%d, %d) of a desk that is %s = %v, %d, want %d", ticks, now, name, o, e, want)
			}
		}
		for _, ticks := range noSpans {
			for _, now := range slices.Concat(times, noTimes) {
				refused(ticks, now, api.ErrArg)
			}
		}
		for _, ticks := range spans {
			for _, now := range noTimes {
				refused(ticks, now, api.ErrArg)
			}
			for _, now := range []int64{latest - ticks + 1, latest} {
				refused(ticks, now, api.ErrOver)
			}
			if name == "full" || name == "retired" {
				refused(ticks, latest-ticks, api.ErrFull)
				refused(ticks, 0, api.ErrFull)
			}
		}
		has(t, d, p)
	}
}

// Whatever leases are returned, in whatever order, their ids are taken again by the lowest.
func TestGrantTakesTheLowestId(t *testing.T) {
	for count := 1; count <= 5; count++ {
		orders(5, func(order []int) {
			d, p := filled(t, 5, 9)
			back := slices.Clone(order[:count])
			for _, i := range back {
				if e := d.Return(id(i, 9)); e != api.OK {
					t.Error("Return", i, e)
				}
			}
			for _, i := range slices.Sorted(slices.Values(back)) {
				if o, e := d.Grant(int64(i)+1, 50); o != id(i, 10) || e != api.OK {
					t.Error("Grant", o, e, "want", i, "of", back)
				}
				p[i] = place{10, true, 51 + int64(i)}
			}
			if o, e := d.Grant(1, 50); o != (api.Outer{}) || e != api.ErrFull {
				t.Error("Grant", o, e)
			}
			listed(t, d, p)
		})
	}
}

func TestGrantOfTheGreatestDesk(t *testing.T) {
	d, p := filled(t, 64, 1)
	is(t, d, p)
	for i := range 64 {
		// The step and 65 are without a common divisor: all ids are given back, and taken again at once.
		o := id((i+1)*8%65-1, 1)
		if e := d.Return(o); e != api.OK {
			t.Error("Return", o, e)
		}
		if again, e := d.Grant(3+int64(i), 7); again != id(o.Id, 2) || e != api.OK {
			t.Error("Grant", again, e, "want", o.Id)
		}
		p[o.Id] = place{2, true, 10 + int64(i)}
		listed(t, d, p)
		grants(t, d, p, 5, 5)
	}
	is(t, d, p)
}

func TestRetiredIdsAreNotTaken(t *testing.T) {
	for _, size := range sizes {
		// All of them, from the first one on and from the last one on, until none is left.
		for _, backwards := range []bool{false, true} {
			d, p := filled(t, size, last)
			for i := range size {
				o := id(i, last)
				if backwards {
					o.Id = size - 1 - i
				}
				if e := d.Return(o); e != api.OK {
					t.Error("Return", o, e)
				}
				p[o.Id] = place{gen: end + 1}
				if o, e := d.Grant(5, 5); o != (api.Outer{}) || e != api.ErrFull {
					t.Error("Grant", o, e)
				}
				listed(t, d, p)
			}
			is(t, d, p)
			is(t, d.Copy(), p)
		}
	}
	// Beside ids that are not retired.
	d, p := filled(t, 3, last-1)
	returns(t, d, p, id(1, last-1))
	grants(t, d, p, 4, 4)
	returns(t, d, p, id(1, last), id(2, last-1))
	if o, e := d.Grant(6, 6); o != id(2, last) || e != api.OK {
		t.Error("Grant", o, e)
	}
	p[2] = place{end, true, 12}
	if o, e := d.Grant(7, 7); o != (api.Outer{}) || e != api.ErrFull {
		t.Error("Grant", o, e)
	}
	is(t, d, p)
}

// P11.3, P11.4 and P11.5

// asked are resources, and the errors that they alone bring about with a desk of mixed.
var asked = []struct {
	o api.Outer
	e api.Errno
}{
	// Granted, in the last generation.
	{id(0, last), api.OK},
	{id(0, last-1), api.ErrStale},
	{id(0, last-2), api.ErrStale},
	{id(0, 1), api.ErrStale},
	{id(0, 0), api.ErrArg},
	// Retired.
	{id(1, last), api.ErrStale},
	{id(1, last-1), api.ErrStale},
	{id(1, 1), api.ErrStale},
	{id(1, 0), api.ErrArg},
	{id(2, last), api.ErrStale},
	// Granted, in the first generation.
	{id(3, last-1), api.OK},
	{id(3, last), api.ErrStale},
	{id(3, last-2), api.ErrStale},
	{id(3, 0), api.ErrArg},
	{id(4, last), api.OK},
	{id(5, last-1), api.OK},
	{id(5, last), api.ErrStale},
	// Free, and granted before.
	{id(6, last), api.ErrStale},
	{id(6, last-1), api.ErrStale},
	{id(6, 1), api.ErrStale},
	{id(6, 0), api.ErrArg},
	// Never granted.
	{id(7, last), api.ErrStale},
	{id(7, last-1), api.ErrStale},
	{id(7, 1), api.ErrStale},
	{id(7, 0), api.ErrArg},
	// The desk does not have the id.
	{id(8, last-1), api.ErrRange},
	{id(8, last), api.ErrRange},
	{id(8, 1), api.ErrRange},
	{id(8, 0), api.ErrArg},
	{id(63, 1), api.ErrRange},
	{id(63, last), api.ErrRange},
	{id(63, 0), api.ErrArg},
	// No resource of the outer world has it.
	{id(64, last), api.ErrArg},
	{id(64, 1), api.ErrArg},
	{id(64, 0), api.ErrArg},
	{id(-1, last), api.ErrArg},
	{id(-1, 0), api.ErrArg},
	{id(255, last), api.ErrArg},
	{id(256, last), api.ErrArg},
	{id(1<<32, last), api.ErrArg},
	{id(1<<32+3, last-1), api.ErrArg},
	{id(math.MaxInt, last), api.ErrArg},
	{id(math.MinInt, last), api.ErrArg},
	// The Kind is another one, of an id that is granted, of a stale one, and of one that there is not.
	{api.Outer{Kind: 1, Id: 0, Gen: last}, api.ErrArg},
	{api.Outer{Kind: 2, Id: 3, Gen: last - 1}, api.ErrArg},
	{api.Outer{Kind: 1, Id: 1, Gen: last}, api.ErrArg},
	{api.Outer{Kind: 2, Id: 8, Gen: 1}, api.ErrArg},
	{api.Outer{Kind: 1, Id: -1, Gen: 0}, api.ErrArg},
	{api.Outer{Kind: 2, Id: 64, Gen: last}, api.ErrArg},
	{api.Outer{Kind: 0, Id: 0, Gen: last}, api.ErrArg},
	{api.Outer{Kind: 4, Id: 0, Gen: last}, api.ErrArg},
	{api.Outer{Kind: -3, Id: 0, Gen: last}, api.ErrArg},
	{api.Outer{Kind: 1<<32 + 3, Id: 0, Gen: last}, api.ErrArg},
	{api.Outer{}, api.ErrArg},
}

func TestUntil(t *testing.T) {
	granted := map[int]int64{0: 2040, 3: 1013, 4: latest, 5: 1013}
	for _, x := range asked {
		d, p := mixed(t)
		var want int64
		if x.e == api.OK {
			want = granted[x.o.Id]
		}
		if at, e := d.Until(x.o); at != want || e != x.e {
			t.Errorf("Until(%v) = %d, %d, want %d, %d", x.o, at, e, want, x.e)
		}
		is(t, d, p)
	}
}

func TestOver(t *testing.T) {
	granted := map[int]int64{0: 2040, 3: 1013, 4: latest, 5: 1013}
	for _, x := range asked {
		d, p := mixed(t)
		for _, now := range append([]int64{1012, 1013, 1014, 2039, 2040, 2041}, times...) {
			want := x.e == api.OK && now >= granted[x.o.Id]
			if over, e := d.Over(x.o, now); over != want || e != x.e {
				t.Errorf("Over(%v, %d) = %t, %d, want %t, %d", x.o, now, over, e, want, x.e)
			}
		}
		// What is wrong with the time comes before whether there is such a lease.
		for _, now := range noTimes {
			if over, e := d.Over(x.o, now); over || e != api.ErrArg {
				t.Errorf("Over(%v, %d) = %t, %d", x.o, now, over, e)
			}
		}
		is(t, d, p)
	}
}

func TestReturn(t *testing.T) {
	for _, x := range asked {
		d, p := mixed(t)
		if e := d.Return(x.o); e != x.e {
			t.Errorf("Return(%v) = %d, want %d", x.o, e, x.e)
		}
		if x.e == api.OK {
			p[x.o.Id] = place{gen: uint64(x.o.Gen) + 1}
		}
		has(t, d, p)
	}
}

func TestRenew(t *testing.T) {
	for _, x := range asked {
		d, p := mixed(t)
		// The last time at which no lease is over, and the first spans.
		for ticks := range int64(5) {
			want := x.e
			if ticks == 0 {
				want = api.ErrArg
			}
			if e := d.Renew(x.o, ticks, 1012); e != want {
				t.Errorf("Renew(%v, %d, 1012) = %d, want %d", x.o, ticks, e, want)
			}
			if want == api.OK {
				p[x.o.Id].until = 1012 + ticks
			}
			// The refusals of the other resources are asked for by the tests of the other calls.
			listed(t, d, p)
		}
		// What is wrong with the numbers comes before whether there is such a lease.
		for _, ticks := range noSpans {
			for _, now := range slices.Concat(times, noTimes) {
				if e := d.Renew(x.o, ticks, now); e != api.ErrArg {
					t.Errorf("Renew(%v, %d, %d) = %d", x.o, ticks, now, e)
				}
			}
		}
		for _, ticks := range spans {
			for _, now := range noTimes {
				if e := d.Renew(x.o, ticks, now); e != api.ErrArg {
					t.Errorf("Renew(%v, %d, %d) = %d", x.o, ticks, now, e)
				}
			}
		}
		// Whether there is such a lease comes before whether the sum is a time.
		for _, now := range []int64{latest - 1, latest} {
			want := x.e
			if want == api.OK {
				want = api.ErrState
			}
			if e := d.Renew(x.o, longest, now); x.o != id(4, last) && e != want {
				t.Errorf("Renew(%v, %d, %d) = %d, want %d", x.o, longest, now, e, want)
			}
		}
		has(t, d, p)
	}
}

// A lease is granted from now on for the ticks of Renew, whatever it was granted until: for longer, as long, and less long.
func TestRenewGrantsFromNow(t *testing.T) {
	for _, x := range []struct {
		ticks, now, until int64
		e                 api.Errno
	}{
		{1, 0, 1, api.OK},
		{longest, 0, longest, api.OK},
		{1, 50, 51, api.OK},
		{50, 50, 100, api.OK},
		{49, 50, 99, api.OK},
		{51, 50, 101, api.OK},
		{1, 98, 99, api.OK},
		{1, 99, 100, api.OK},
		{2, 99, 101, api.OK},
		{longest, 99, 99 + longest, api.OK},
		{1, 100, 100, api.ErrState},
		{longest, 100, 100, api.ErrState},
		{1, 101, 100, api.ErrState},
		{1, latest - 1, 100, api.ErrState},
		{1, latest, 100, api.ErrState},
		{longest, latest, 100, api.ErrState},
		{0, 50, 100, api.ErrArg},
		{0, 100, 100, api.ErrArg},
		{longest + 1, 50, 100, api.ErrArg},
		{longest + 1, latest, 100, api.ErrArg},
		{1, -1, 100, api.ErrArg},
		{1, latest + 1, 100, api.ErrArg},
	} {
		d, p := made(t, 3, 4)
		for range 3 {
			grants(t, d, p, 60, 40)
		}
		if e := d.Renew(id(1, 4), x.ticks, x.now); e != x.e {
			t.Errorf("Renew(.., %d, %d) = %d, want %d", x.ticks, x.now, e, x.e)
		}
		p[1].until = x.until
		has(t, d, p)
	}
}

// At the end of time a lease can be renewed up to the last time, and not beyond; whether it is over matters more.
func TestRenewAtTheEndOfTime(t *testing.T) {
	for _, ticks := range spans {
		for _, start := range []int64{latest - longest, latest - 3, latest - 1} {
			for _, now := range []int64{latest - ticks - 1, latest - ticks, latest - ticks + 1, latest - 2, latest - 1, latest, latest + 1} {
				d, p := made(t, 2, 4)
				grants(t, d, p, latest-start, start)
				grants(t, d, p, 1, start)
				renews(t, d, p, id(0, 4), ticks, now)
				renews(t, d, p, id(1, 4), ticks, now)
				listed(t, d, p)
			}
		}
	}
	d, p := made(t, 1, 4)
	grants(t, d, p, 10, latest-10)
	for _, x := range []struct {
		ticks, now int64
		e          api.Errno
	}{
		{3, latest - 2, api.ErrOver},
		{2, latest - 1, api.ErrOver},
		{longest, latest - 1, api.ErrOver},
		{longest, latest - longest + 1, api.ErrOver},
		{1, latest, api.ErrState},
		{longest, latest, api.ErrState},
		{1, latest + 1, api.ErrArg},
		{longest + 1, latest - 1, api.ErrArg},
		{longest, latest - longest, api.OK},
		{2, latest - 2, api.OK},
		{1, latest - 1, api.OK},
	} {
		if e := d.Renew(id(0, 4), x.ticks, x.now); e != x.e {
			t.Errorf("Renew(.., %d, %d) = %d, want %d", x.ticks, x.now, e, x.e)
		}
		is(t, d, p)
	}
}

// A lease that was renewed is over at its new time, and what it was granted until before does not matter any more.
func TestRenewAgainAndAgain(t *testing.T) {
	d, p := filled(t, 3, 4)
	for k := range int64(1000) {
		renews(t, d, p, id(1, 4), 2+k%7, 900+k)
		if at, e := d.Until(id(1, 4)); at != 902+k+k%7 || e != api.OK {
			t.Fatal("Until", k, at, e)
		}
		listed(t, d, p)
	}
	has(t, d, p)
}

func TestReturnWhetherOverOrNot(t *testing.T) {
	for _, size := range sizes {
		for _, first := range firsts {
			for i := range size {
				d, p := filled(t, size, first)
				// Return has no time: the lease is given back after questions, and refusals, at all of them.
				for _, now := range []int64{0, p[i].until - 1, p[i].until, latest} {
					over, e := d.Over(id(i, first), now)
					if over != (now >= p[i].until) || e != api.OK {
						t.Error("Over", i, now, over, e)
					}
					if over {
						renews(t, d, p, id(i, first), 5, now)
					}
					c, q := d.Copy(), slices.Clone(p)
					if e := c.Return(id(i, first)); e != api.OK {
						t.Error("Return", size, i, first, e)
					}
					q[i] = place{gen: uint64(first) + 1}
					listed(t, c, q)
					for range 2 {
						isOf(t, c, q, id(i, first))
					}
				}
				returns(t, d, p, id(i, first))
				if listed(t, d, p); i == size/2 {
					has(t, d, p)
				}
			}
		}
	}
}

func TestOtherKinds(t *testing.T) {
	d, p := filled(t, 64, 3)
	for _, kind := range otherKinds {
		for i := range 64 {
			o := api.Outer{Kind: kind, Id: i, Gen: 3}
			at, e := d.Until(o)
			over, f := d.Over(o, latest)
			if at != 0 || over || e != api.ErrArg || f != api.ErrArg {
				t.Error("Until, Over", o, at, over, e, f)
			}
			if e, f := d.Renew(o, 5, 50), d.Return(o); e != api.ErrArg || f != api.ErrArg {
				t.Error("Renew, Return", o, e, f)
			}
		}
	}
	has(t, d, p)
}

// Each id on both sides of the ends, for a desk of every size: before a lease is granted, and while all are.
func TestIdsThatADeskDoesNotHave(t *testing.T) {
	for size := 1; size <= 64; size++ {
		d, p := made(t, size, 2)
		for _, granted := range []bool{false, true} {
			for i := -2; i <= 66; i++ {
				want := api.ErrStale
				switch {
				case i < 0 || i > 63:
					want = api.ErrArg
				case i >= size:
					want = api.ErrRange
				case granted:
					want = api.OK
				}
				at, e := d.Until(id(i, 2))
				over, f := d.Over(id(i, 2), latest)
				if e != want || f != want || over != (want == api.OK) || over != (at == 7) {
					t.Errorf("Until, Over of %d of %d: %d, %d, %t, %d, want %d", i, size, at, e, over, f, want)
				}
				if e := d.Renew(id(i, 2), 4, 3); e != want {
					t.Errorf("Renew of %d of %d: %d, want %d", i, size, e, want)
				}
				if want == api.OK {
					continue
				}
				if e := d.Return(id(i, 2)); e != want {
					t.Errorf("Return of %d of %d: %d, want %d", i, size, e, want)
				}
			}
			for !granted && len(p.all()) < size {
				grants(t, d, p, 5, 2)
			}
		}
	}
}

// P11.6

func TestAllAndLen(t *testing.T) {
	d, p := mixed(t)
	if l := d.All(); !slices.Equal(l, []api.Outer{id(0, last), id(3, last-1), id(4, last), id(5, last-1)}) || d.Len() != 4 {
		t.Error("All, Len:", l, d.Len())
	}
	listed(t, d, p)
	for _, size := range sizes {
		d, p := made(t, size, last-1)
		listed(t, d, p)
		for i := range size {
			grants(t, d, p, 64-int64(i), 0)
			listed(t, d, p)
		}
		// Each third one, so that there are gaps, and then all.
		for step := 3; step > 0; step -= 2 {
			for i := 0; i < size; i += step {
				returns(t, d, p, id(i, last-1))
				listed(t, d, p)
			}
		}
		if n, l := d.Len(), d.All(); n != 0 || len(l) != 0 {
			t.Error("Len, All of a desk without leases:", n, l)
		}
	}
}

func TestAllIsInTheOrderOfIds(t *testing.T) {
	d, p := filled(t, 5, 3)
	returns(t, d, p, id(4, 3), id(2, 3), id(0, 3))
	grants(t, d, p, 9_000, 9_000)
	grants(t, d, p, 1, 1)
	if l := d.All(); !slices.Equal(l, []api.Outer{id(0, 4), id(1, 3), id(2, 4), id(3, 3)}) {
		t.Error("All", l)
	}
	d, p = filled(t, 64, 3)
	for i := range 64 {
		returns(t, d, p, id((i+1)*8%65-1, 3))
		grants(t, d, p, int64(i)+1, 1)
	}
	l := d.All()
	for i, o := range l {
		if o != id(i, 4) {
			t.Error("All", i, o)
		}
	}
	if len(l) != 64 || d.Len() != 64 {
		t.Error("All, Len:", len(l), d.Len())
	}
}

// Leases that are over are there, and hold their ids, until they are returned.
func TestLeasesThatAreOverAreThere(t *testing.T) {
	d, p := filled(t, 4, 3)
	all := []api.Outer{id(0, 3), id(1, 3), id(2, 3), id(3, 3)}
	for _, o := range all {
		if over, e := d.Over(o, latest); !over || e != api.OK {
			t.Error("Over", o, over, e)
		}
		renews(t, d, p, o, 5, latest-5)
	}
	if o, e := d.Grant(5, latest-5); o != (api.Outer{}) || e != api.ErrFull {
		t.Error("Grant, when all leases are over:", o, e)
	}
	if l := d.All(); !slices.Equal(l, all) || d.Len() != 4 {
		t.Error("All, Len:", l, d.Len())
	}
	has(t, d, p)
	returns(t, d, p, id(2, 3))
	if o, e := d.Grant(5, latest-5); o != id(2, 4) || e != api.OK {
		t.Error("Grant", o, e)
	}
}

// R4

func TestAllIsNewMemory(t *testing.T) {
	for _, size := range sizes {
		d, p := filled(t, size, 6)
		a, b := d.All(), d.All()
		for i := range a {
			a[i] = id(63-i, 1)
		}
		_ = append(a[:0], id(0, 9))
		clear(a[:cap(a)])
		if want := p.all(); !slices.Equal(b, want) {
			t.Error("two results share memory:", b)
		}
		is(t, d, p)
		// What comes later does not change what was returned.
		before := slices.Clone(b)
		returns(t, d, p, p.all()...)
		grants(t, d, p, 3, 3)
		if !slices.Equal(b, before) {
			t.Error("a result is changed by later calls:", b)
		}
		has(t, d, p)
	}
}

// What an assignment of the struct made is the same desk: its ids and their times stay together.
func TestAssignedDesks(t *testing.T) {
	d, p := mixed(t)
	y := *d
	grants(t, d, p, 50, 50)
	returns(t, &y, p, id(3, last-1))
	grants(t, &y, p, 24, 24)
	renews(t, d, p, id(0, last), 33, 33)
	renews(t, &y, p, id(4, last), 44, 44)
	is(t, d, p)
	is(t, &y, p)
	has(t, y.Copy(), p)
}

// P11.7

// watched is a desk, and what was noted about the leases that it granted.
type watched struct {
	*Desk
	size    int
	seen    map[api.Outer]bool
	held    []api.Outer
	over    []api.Outer
	retired int
}

func (w *watched) grant(t *testing.T, ticks int64) {
	o, e := w.Grant(ticks, 100)
	if free := len(w.held)+w.retired < w.size; free != (e == api.OK) || !free && e != api.ErrFull {
		t.Fatal("Grant", o, e, "free:", free)
	}
	if e != api.OK {
		return
	}
	if w.seen[o] {
		t.Fatal("Grant returned again", o)
	}
	w.seen[o] = true
	w.held = append(w.held, o)
}

func (w *watched) giveBack(t *testing.T, i int) {
	o := w.held[i]
	if e := w.Return(o); e != api.OK {
		t.Fatal("Return", o, e)
	}
	w.held = slices.Delete(w.held, i, i+1)
	w.over = append(w.over, o)
	if o.Gen == last {
		w.retired++
	}
}

// stale asks for what was returned: the latest ones, and others that a number says.
func (w *watched) stale(t *testing.T, n int) {
	for i, o := range w.over {
		if len(w.over)-i > 10 && (n+i)%64 != 0 {
			continue
		}
		at, e := w.Until(o)
		over, f := w.Over(o, latest)
		if at != 0 || over || e != api.ErrStale || f != api.ErrStale {
			t.Fatal("Until, Over", o, at, e, over, f)
		}
		if e, f := w.Renew(o, 5, 0), w.Return(o); e != api.ErrStale || f != api.ErrStale {
			t.Fatal("Renew, Return", o, e, f)
		}
	}
}

// No lease is granted twice, and what was returned is stale from then on.
func TestNeverAgain(t *testing.T) {
	for _, size := range []int{1, 4, 64} {
		for _, first := range []uint32{1, 1 << 31, last - 30} {
			d, _ := made(t, size, first)
			w := &watched{Desk: d, size: size, seen: map[api.Outer]bool{}}
			turns(4000, func(n uint64) {
				if n%2 == 0 || len(w.held) == 0 {
					w.grant(t, int64(n/64%100)+1)
				} else {
					w.giveBack(t, int(n/2)%len(w.held))
				}
				w.stale(t, int(n%64))
				if w.Len() != len(w.held) {
					t.Fatal("Len", w.Len(), "want", len(w.held))
				}
			})
			if first == last-30 && size < 64 && (len(w.seen) != size*31 || d.Len() != 0) {
				t.Error("the ids are not all retired:", len(w.seen), d.Len())
			}
		}
	}
}

func TestReturnedLeasesStayStale(t *testing.T) {
	d, p := filled(t, 3, last-5)
	w := &watched{Desk: d}
	for p[1].taken {
		o := id(1, uint32(p[1].gen))
		returns(t, d, p, o)
		w.over = append(w.over, o)
		// While the id is free, and while it is granted again, until the same time.
		w.stale(t, 0)
		listed(t, d, p)
		grants(t, d, p, 899, 108)
		w.stale(t, 0)
		has(t, d, p)
	}
	if len(w.over) != 6 {
		t.Error(w.over)
	}
}

// Many generations are no others than few.
func TestManyGenerations(t *testing.T) {
	for _, first := range []uint32{1, 65_000, 1<<31 - 35_000, last - 70_000} {
		d, p := made(t, 2, first)
		grants(t, d, p, 4, 4)
		for k := range uint32(70_000) {
			if o, e := d.Grant(6, 6); o != id(1, first+k) || e != api.OK || d.Return(o) != api.OK {
				t.Fatal("Grant", first, k, o, e)
			}
		}
		p[1].gen += 70_000
		has(t, d, p)
	}
}

// P11.8

// From its time on, a lease is over, and can not be renewed; before it, it is not, and can.
func TestOverAtAllLaterTimes(t *testing.T) {
	for _, x := range []struct{ ticks, now int64 }{{1, 0}, {2, 0}, {10, 5}, {longest, 0}, {longest, 1 << 32}, {longest, latest - longest}, {1, latest - 1}} {
		until := x.ticks + x.now
		later := slices.Concat(times, []int64{until - 2, until - 1, until, until + 1, until + 2})
		later = slices.DeleteFunc(later, func(now int64) bool { return !aTime(now) })
		slices.Sort(later)
		d, p := made(t, 1, 1)
		grants(t, d, p, x.ticks, x.now)
		was := false
		for _, now := range later {
			over, e := d.Over(id(0, 1), now)
			if over != (now >= until) || was && !over || e != api.OK {
				t.Errorf("Over(.., %d) = %t, %d, until %d", now, over, e, until)
			}
			was = over
			for _, ticks := range spans {
				want := api.OK
				switch {
				case over:
					want = api.ErrState
				case now+ticks > latest:
					want = api.ErrOver
				}
				c := d.Copy()
				if e := c.Renew(id(0, 1), ticks, now); e != want {
					t.Errorf("Renew(.., %d, %d) = %d, want %d, until %d", ticks, now, e, want, until)
				}
				if want != api.OK {
					listed(t, c, p)
				}
			}
		}
		if !was {
			t.Error("not over at the last time:", x)
		}
		is(t, d, p)
	}
}

// A desk keeps no time of its own: what was asked for at a later time does not matter for an earlier one.
func TestTimesMayGoBack(t *testing.T) {
	d, p := made(t, 2, 1)
	grants(t, d, p, 10, 5)
	for _, now := range []int64{15, latest, 14, 0, 15, 14} {
		if over, e := d.Over(id(0, 1), now); over != (now >= 15) || e != api.OK {
			t.Error("Over", now, over, e)
		}
	}
	renews(t, d, p, id(0, 1), 5, 20)
	renews(t, d, p, id(0, 1), 100, 14)
	grants(t, d, p, 3, 0)
	is(t, d, p)
}

// P11.9

// Each lease is renewed, and returned, beside all others, which stay as they are; and so do they when its id is granted again.
func TestOthersAreLeft(t *testing.T) {
	for _, size := range sizes {
		for _, first := range firsts {
			for i := range size {
				d, p := filled(t, size, first)
				others := func() {
					t.Helper()
					l := slices.DeleteFunc(d.All(), func(o api.Outer) bool { return o.Id == i })
					for _, o := range l {
						if at, e := d.Until(o); o.Gen != first || at != p[o.Id].until || e != api.OK {
							t.Error("Until", o, at, e, "want", p[o.Id])
						}
					}
					if len(l) != size-1 {
						t.Error("All", l, "without", i, "of", size)
					}
				}
				if e := d.Renew(id(i, first), 3, 3); e != api.OK {
					t.Error("Renew", i, e)
				}
				others()
				if e := d.Return(id(i, first)); e != api.OK {
					t.Error("Return", i, e)
				}
				others()
				d.Grant(4, 4)
				others()
			}
		}
	}
}

// Leases until the same time are returned one by one.
func TestEqualTimes(t *testing.T) {
	orders(4, func(order []int) {
		for _, now := range []int64{0, 5, latest - 5} {
			d, p := made(t, 4, 1)
			for range 4 {
				grants(t, d, p, 5, now)
			}
			for _, i := range order {
				returns(t, d, p, id(i, 1))
				listed(t, d, p)
			}
			grants(t, d, p, 5, now)
			has(t, d, p)
		}
	})
}

// P11.10

func TestRefusalsAndQuestionsChangeNothing(t *testing.T) {
	d, p := mixed(t)
	for range 2 {
		for _, ticks := range noSpans {
			d.Grant(ticks, 5)
			d.Renew(id(0, last), ticks, 5)
		}
		for _, now := range append([]int64{latest - 2, latest - 1, latest}, noTimes...) {
			d.Grant(3, now)
			d.Renew(id(0, last), 3, now)
			d.Renew(id(4, last), 3, now)
			d.Over(id(0, last), now)
		}
		for _, o := range names(p) {
			d.Until(o)
			d.Over(o, 5)
			if p.check(o) != api.OK {
				d.Renew(o, 5, 5)
				d.Return(o)
			}
		}
		d.All()
		d.Len()
		c := d.Copy()
		c.Grant(3, 3)
		c.Renew(id(0, last), 3, 3)
		c.Return(id(3, last-1))
		listed(t, d, p)
	}
	has(t, d, p)
	grants(t, d, p, 3, 3)
	grants(t, d, p, 3, 3)
	grants(t, d, p, 3, 3)
	// No id is free now.
	has(t, d, p)
}

// TestShortSequences makes all sequences of a few changes, right ones and wrong ones, on desks close to the last generation.
func TestShortSequences(t *testing.T) {
	for _, size := range []int{1, 2} {
		var next func(d *Desk, p plan, left int)
		next = func(d *Desk, p plan, left int) {
			listed(t, d, p)
			for i := range size + 1 {
				for _, g := range []uint32{last - 1, last} {
					isOf(t, d, p, id(i, g))
				}
			}
			if left == 0 || t.Failed() {
				return
			}
			branch := func(change func(c *Desk, q plan)) {
				c, q := d.Copy(), slices.Clone(p)
				change(c, q)
				next(c, q, left-1)
			}
			for _, now := range []int64{5, latest} {
				branch(func(c *Desk, q plan) { grants(t, c, q, 2, now) })
			}
			for i := range size {
				for _, g := range []uint32{last - 1, last} {
					branch(func(c *Desk, q plan) { returns(t, c, q, id(i, g)) })
					branch(func(c *Desk, q plan) { renews(t, c, q, id(i, g), 4, 6) })
				}
			}
			listed(t, d, p)
		}
		d, p := made(t, size, last-1)
		next(d, p, 6-size)
	}
}

func TestLongSequences(t *testing.T) {
	for _, size := range []int{1, 3, 64} {
		for _, first := range []uint32{1, last - 20} {
			for _, start := range []int64{0, latest - 2000} {
				d, p := made(t, size, first)
				now, most, renewed, refused := start, 0, 0, 0
				turns(4000, func(n uint64) {
					i := int(n / 16 % uint64(size+1))
					gen := first
					if i < size {
						gen = uint32(p[i].gen)
					}
					switch n % 16 {
					case 0:
						returns(t, d, p, id(i, gen-1))
					case 1, 2:
						returns(t, d, p, id(i, gen))
					case 3:
						d, p = d.Copy(), slices.Clone(p)
					case 4, 5:
						now++
					case 6, 7, 8, 9, 10:
						// Up to twice as long as the leases of this desk are granted.
						ticks := int64(n/64%uint64(16*size)) - 1
						switch p.renewable(id(i, gen), ticks, now) {
						case api.OK:
							renewed++
						case api.ErrState:
							refused++
						}
						renews(t, d, p, id(i, gen), ticks, now)
					default:
						grants(t, d, p, int64(n/64%uint64(8*size+3))-1, now)
					}
					most = max(most, len(p.all()))
					if listed(t, d, p); n%97 == 0 {
						is(t, d, p)
					}
					if t.Failed() {
						t.FailNow()
					}
				})
				has(t, d, p)
				if most != size || renewed == 0 || refused == 0 {
					t.Error("not all happened:", size, first, most, renewed, refused)
				}
			}
		}
	}
}

// R2

func TestDesksThatAreNotValid(t *testing.T) {
	for name, d := range map[string]*Desk{"nil": nil, "zero": {}, "new": new(Desk)} {
		for range 2 {
			// ErrNil comes before what is wrong with the arguments.
			for _, now := range slices.Concat(times, noTimes) {
				for _, ticks := range slices.Concat(spans, noSpans) {
					if o, e := d.Grant(ticks, now); o != (api.Outer{}) || e != api.ErrNil {
						t.Error(name, "Grant", ticks, now, o, e)
					}
					for _, o := range []api.Outer{{}, id(0, 1), id(0, 0), id(64, 1), {Kind: 1, Id: 0, Gen: 1}} {
						if e := d.Renew(o, ticks, now); e != api.ErrNil {
							t.Error(name, "Renew", o, ticks, now, e)
						}
					}
				}
			}
			for _, o := range names(planned(3, 1)) {
				if e, f := d.Renew(o, 5, 5), d.Return(o); e != api.ErrNil || f != api.ErrNil {
					t.Error(name, "Renew, Return", o, e, f)
				}
				if at, e := d.Until(o); at != 0 || e != api.ErrNil {
					t.Error(name, "Until", o, at, e)
				}
				for _, now := range []int64{-1, 0, latest, latest + 1} {
					if over, e := d.Over(o, now); over || e != api.ErrNil {
						t.Error(name, "Over", o, now, over, e)
					}
				}
			}
			if l := d.All(); len(l) != 0 {
				t.Error(name, "All", l)
			}
			if n := d.Len(); n != 0 {
				t.Error(name, "Len", n)
			}
			if c := d.Copy(); c != nil {
				t.Error(name, "Copy", c)
			}
		}
	}
}

// R8

func TestEqualCallsReturnEqualResults(t *testing.T) {
	for _, change := range changes(t) {
		a, p := mixed(t)
		change(a, p)
		for range 3 {
			b, q := mixed(t)
			c, r := b.Copy(), slices.Clone(q)
			change(b, q)
			change(c, r)
			if l := a.All(); !slices.Equal(l, b.All()) || !slices.Equal(l, c.All()) {
				t.Error("All:", l, b.All(), c.All())
			}
			has(t, b, p)
			has(t, c, p)
		}
	}
}

// The examples of the chapter.

func TestExamples(t *testing.T) {
	d, _ := made(t, 2, 1)
	granted := func(ticks, now int64, want api.Outer, wantE api.Errno) {
		t.Helper()
		if o, e := d.Grant(ticks, now); o != want || e != wantE {
			t.Error("Grant", ticks, now, o, e)
		}
	}
	until := func(o api.Outer, want int64, wantE api.Errno) {
		t.Helper()
		if at, e := d.Until(o); at != want || e != wantE {
			t.Error("Until", o, at, e)
		}
	}
	over := func(o api.Outer, now int64, want bool, wantE api.Errno) {
		t.Helper()
		if over, e := d.Over(o, now); over != want || e != wantE {
			t.Error("Over", o, now, over, e)
		}
	}
	is := func(call string, e, want api.Errno) {
		t.Helper()
		if e != want {
			t.Error(call, e, "want", want)
		}
	}
	granted(10, 5, id(0, 1), api.OK)
	granted(1, 5, id(1, 1), api.OK)
	granted(3, 5, api.Outer{}, api.ErrFull)
	until(id(0, 1), 15, api.OK)
	over(id(0, 1), 14, false, api.OK)
	over(id(0, 1), 15, true, api.OK)
	over(id(1, 1), 6, true, api.OK)
	is("Renew", d.Renew(id(0, 1), 100, 14), api.OK)
	until(id(0, 1), 114, api.OK)
	is("Renew", d.Renew(id(1, 1), 1, 6), api.ErrState)
	is("Return", d.Return(id(1, 1)), api.OK)
	is("Return", d.Return(id(1, 1)), api.ErrStale)
	granted(5, 20, id(1, 2), api.OK)
	is("Renew", d.Renew(id(1, 1), 5, 20), api.ErrStale)
	is("Renew", d.Renew(api.Outer{Kind: api.KindFile, Id: 1, Gen: 2}, 5, 20), api.ErrArg)
	is("Renew", d.Renew(id(1, 2), 0, 20), api.ErrArg)
	granted(1, 1<<40, api.Outer{}, api.ErrOver)
	is("Renew", d.Renew(id(0, 1), 1<<20, 1<<40), api.ErrState)
	if l := d.All(); !slices.Equal(l, []api.Outer{id(0, 1), id(1, 2)}) {
		t.Error("All", l)
	}
	over(id(0, 1), 1<<40+1, false, api.ErrArg)
	until(id(5, 1), 0, api.ErrRange)
	_, e := New(65, 1)
	is("New", e, api.ErrArg)
	_, e = New(1, 0)
	is("New", e, api.ErrArg)
}
