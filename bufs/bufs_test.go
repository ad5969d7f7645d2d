package bufs

import (
	"maps"
	"math"
	"slices"
	"testing"

	"estray/api"
)

const (
	last = api.MaxGen
	end  = uint64(last)
	much = 1 << 24
)

var (
	// sizes are the least and the greatest ones, and some between.
	sizes = []int{1, 2, 3, 32, 63, 64}
	// noSizes are none; some would be sizes in fewer bits, and some are those of tables of slots.
	noSizes = []int{math.MinInt, -1<<32 + 1, -64, -2, -1, 0, 65, 66, 128, 255, 256, 257, 1<<32 + 1, 1<<32 + 64, math.MaxInt}
	// rooms are the least and the greatest bytes of a pool, and some between.
	rooms = []int{1, 2, 100, 65_535, 65_536, 65_537, 1 << 20, 64 * 65_536, much - 1, much}
	// noRooms are none; some would be such in fewer bits.
	noRooms = []int{math.MinInt, -1<<32 + 1, -much, -2, -1, 0, much + 1, much + 2, 1 << 25, 1 << 31, 1 << 32, 1<<32 + 1, 1<<32 + much, math.MaxInt}
	// firsts are the first generations, the last ones, and some between.
	firsts = []uint32{1, 2, 7, 1 << 31, last - 2, last - 1, last}
	// someBytes are the least and the greatest ones of a buffer, and some between.
	someBytes = []int{1, 2, 3, 255, 256, 32_767, 32_768, 65_535, 65_536}
	// noBytes are none; some would be such in fewer bits, and some are bytes of a pool.
	noBytes = []int{math.MinInt, -1<<32 + 5, -65_537, -65_536, -2, -1, 0, 65_537, 65_538, 131_072, much, 1 << 31, 1 << 32, 1<<32 + 5, math.MaxInt - 1, math.MaxInt}
	// otherIds are ids that no pool has.
	otherIds = []int{math.MinInt, -1 << 32, -64, -2, -1, 64, 65, 255, 256, 1 << 32, 1<<32 + 1, math.MaxInt}
	// otherKinds are all that are possible but that of a buffer, and such as are not possible.
	otherKinds = []int{math.MinInt, -2, -1, 0, 1, 3, 4, 258, 1<<32 + 2, math.MaxInt}
)

// id returns a buffer by its id and its generation.
func id(n int, gen uint32) api.Outer { return api.Outer{Kind: 2, Id: n, Gen: gen} }

// place is what an id has to be: it is pinned if it has bytes, and retired if its generation is beyond the last one.
type place struct {
	gen   uint64
	bytes int
}

// plan is what a pool has to be: the chapter's words, written out a second time.
type plan struct {
	room   int
	places []place
}

func planned(size int, room int, first uint32) plan {
	return plan{room, slices.Repeat([]place{{gen: uint64(first)}}, size)}
}

func (p plan) clone() plan { return plan{p.room, slices.Clone(p.places)} }

func (p plan) equal(q plan) bool { return p.room == q.room && slices.Equal(p.places, q.places) }

func (p plan) used() int {
	used := 0
	for _, x := range p.places {
		used += x.bytes
	}
	return used
}

func (p plan) pinned(bytes int) (api.Outer, api.Errno) {
	if bytes < 1 || bytes > 65_536 {
		return api.Outer{}, api.ErrArg
	}
	for i, x := range p.places {
		if x.bytes == 0 && x.gen <= end && bytes <= p.room-p.used() {
			p.places[i].bytes = bytes
			return id(i, uint32(x.gen)), api.OK
		}
	}
	return api.Outer{}, api.ErrFull
}

func (p plan) bytes(o api.Outer) (int, api.Errno) {
	switch {
	case o.Kind != 2:
		return 0, api.ErrArg
	case o.Id < 0 || o.Id >= len(p.places):
		return 0, api.ErrRange
	case p.places[o.Id].bytes == 0 || p.places[o.Id].gen != uint64(o.Gen):
		return 0, api.ErrStale
	}
	return p.places[o.Id].bytes, api.OK
}

func (p plan) unpinned(o api.Outer) api.Errno {
	_, e := p.bytes(o)
	if e == api.OK {
		p.places[o.Id] = place{gen: p.places[o.Id].gen + 1}
	}
	return e
}

func (p plan) all() []api.Outer {
	var all []api.Outer
	for i, x := range p.places {
		if x.bytes != 0 {
			all = append(all, id(i, uint32(x.gen)))
		}
	}
	return all
}

// pins and unpins change a pool and its plan.
func pins(t *testing.T, x *Pool, p plan, bytes ...int) {
	t.Helper()
	for _, n := range bytes {
		o, e := x.Pin(n)
		if want, wantE := p.pinned(n); o != want || e != wantE {
			t.Errorf("Pin(%d) = %v, %d, want %v, %d", n, o, e, want, wantE)
		}
	}
}

func unpins(t *testing.T, x *Pool, p plan, buffers ...api.Outer) {
	t.Helper()
	for _, o := range buffers {
		if e, want := x.Unpin(o), p.unpinned(o); e != want {
			t.Errorf("Unpin(%v) = %d, want %d", o, e, want)
		}
	}
}

// made returns a pool of New, and its plan.
func made(t *testing.T, size int, room int, first uint32) (*Pool, plan) {
	t.Helper()
	x, e := New(size, room, first)
	if e != api.OK || x == nil {
		t.Fatalf("New(%d, %d, %d) = %v, %d", size, room, first, x, e)
	}
	return x, planned(size, room, first)
}

// filled returns a pool all of whose ids are pinned, each with bytes of its own, and its plan; there are more bytes than they have.
func filled(t *testing.T, size int, first uint32) (*Pool, plan) {
	t.Helper()
	x, p := made(t, size, much, first)
	for i := range size {
		pins(t, x, p, 1000+i*7)
	}
	return x, p
}

// mixed returns a pool, and its plan, with an id in each state: pinned in the last generation and in the one before it, retired, free after a buffer was unpinned, and free from the start. Two buffers have the same bytes, and 70 bytes are left.
func mixed(t *testing.T) (*Pool, plan) {
	t.Helper()
	x, p := made(t, 8, 100, last-1)
	pins(t, x, p, 9, 8, 4, 5, 6)
	unpins(t, x, p, id(0, last-1), id(1, last-1), id(2, last-1))
	pins(t, x, p, 14, 20, 7)
	unpins(t, x, p, id(1, last), id(2, last), id(4, last-1))
	pins(t, x, p, 6, 5, 1)
	unpins(t, x, p, id(6, last-1))
	if want := (plan{100, []place{{end, 14}, {end + 1, 0}, {end + 1, 0}, {end - 1, 5}, {end, 6}, {end - 1, 5}, {end, 0}, {end - 1, 0}}}); !p.equal(want) || p.used() != 30 {
		t.Fatal(p)
	}
	return x, p
}

// names returns resources, possible ones and others, that may be taken for those of a pool.
func names(p plan) []api.Outer {
	var list []api.Outer
	size := len(p.places)
	for i := range 66 {
		gen := uint32(1)
		if i < size {
			gen = uint32(p.places[i].gen)
		}
		for _, g := range []uint32{0, 1, gen - 2, gen - 1, gen, gen + 1, last} {
			list = append(list, id(i, g))
		}
	}
	for _, i := range otherIds {
		list = append(list, id(i, 0), id(i, 1), id(i, last-1), id(i, last))
	}
	for _, kind := range otherKinds {
		for _, i := range append([]int{0, size - 1, size, 63}, otherIds...) {
			list = append(list, api.Outer{Kind: kind, Id: i}, api.Outer{Kind: kind, Id: i, Gen: 1}, api.Outer{Kind: kind, Id: i, Gen: last})
		}
		for _, o := range p.all() {
			list = append(list, api.Outer{Kind: kind, Id: o.Id, Gen: o.Gen})
		}
	}
	return append(list, api.Outer{})
}

// listed asks which buffers are pinned, and for their bytes.
func listed(t *testing.T, x *Pool, p plan) {
	t.Helper()
	all := p.all()
	if l := x.All(); !slices.Equal(l, all) {
		t.Errorf("All: %v, want %v", l, all)
	}
	if n := x.Len(); n != len(all) {
		t.Errorf("Len: %d, want %d", n, len(all))
	}
	if n, want := x.Used(), p.used(); n != want {
		t.Errorf("Used: %d, want %d", n, want)
	}
	for _, o := range all {
		if n, e := x.Bytes(o); n != p.places[o.Id].bytes || e != api.OK {
			t.Errorf("Bytes(%v) = %d, %d, want %d", o, n, e, p.places[o.Id].bytes)
		}
	}
}

// is asks all questions about a pool, and makes the calls that it has to refuse.
func is(t *testing.T, x *Pool, p plan) {
	t.Helper()
	listed(t, x, p)
	for _, o := range names(p) {
		want, wantE := p.bytes(o)
		if n, e := x.Bytes(o); n != want || e != wantE {
			t.Errorf("Bytes(%v) = %d, %d, want %d, %d", o, n, e, want, wantE)
		}
		if wantE == api.OK {
			continue
		}
		if e := x.Unpin(o); e != wantE {
			t.Errorf("Unpin(%v) = %d, want %d", o, e, wantE)
		}
	}
	for _, n := range slices.Concat(someBytes, noBytes, []int{p.room - p.used() + 1}) {
		if want, wantE := p.clone().pinned(n); wantE != api.OK {
			if o, e := x.Pin(n); o != want || e != wantE {
				t.Errorf("Pin(%d) = %v, %d, want %d", n, o, e, wantE)
			}
		}
	}
	listed(t, x, p)
}

// has asks all questions about a pool, and has a copy of it go on until nothing more can be pinned, and then until nothing is.
func has(t *testing.T, x *Pool, p plan) {
	t.Helper()
	is(t, x, p)
	c, q := x.Copy(), p.clone()
	for i := range len(p.places) + 1 {
		pins(t, c, q, 1+i*3)
	}
	pins(t, c, q, q.room-q.used()+1, min(q.room-q.used(), 65_536), 1)
	listed(t, c, q)
	for _, o := range slices.Backward(q.all()) {
		unpins(t, c, q, o, o)
	}
	pins(t, c, q, min(q.room, 65_536))
	listed(t, c, q)
	listed(t, x, p)
}

// turns makes calls, each with a number by a rule that repeats only after many of them.
func turns(times int, call func(n uint64)) {
	n := uint64(1)
	for range times {
		n = n*6364136223846793005 + 1442695040888963407
		call(n >> 33)
	}
}

// orders calls f with the numbers from 0 on in all orders.
func orders(n int, f func([]int)) {
	list := make([]int, n)
	for i := range list {
		list[i] = i
	}
	var next func(fixed int)
	next = func(fixed int) {
		if fixed == n {
			f(list)
		}
		for i := fixed; i < n; i++ {
			list[fixed], list[i] = list[i], list[fixed]
			next(fixed + 1)
			list[fixed], list[i] = list[i], list[fixed]
		}
	}
	next(0)
}

// P10.1

func TestNew(t *testing.T) {
	for _, size := range sizes {
		for _, room := range rooms {
			for _, first := range firsts {
				x, p := made(t, size, room, first)
				if n, used, l := x.Len(), x.Used(), x.All(); n != 0 || used != 0 || len(l) != 0 {
					t.Errorf("New(%d, %d, %d): Len %d, Used %d, All %v", size, room, first, n, used, l)
				}
				has(t, x, p)
			}
		}
	}
}

// New makes a pool of exactly so many ids, in this first generation.
func TestSizesOfNew(t *testing.T) {
	for size := 1; size <= 64; size++ {
		for _, first := range firsts {
			x, _ := made(t, size, much, first)
			for i := range size {
				if o, e := x.Pin(i + 1); o != id(i, first) || e != api.OK {
					t.Errorf("New(%d, .., %d), Pin = %v, %d, want %d", size, first, o, e, i)
				}
			}
			if o, e := x.Pin(1); o != (api.Outer{}) || e != api.ErrFull {
				t.Errorf("New(%d, .., %d), Pin = %v, %d", size, first, o, e)
			}
		}
	}
}

// New makes a pool of exactly so many bytes; more than 64 greatest buffers have can not all be pinned.
func TestRoomsOfNew(t *testing.T) {
	for _, room := range append([]int{3, 1000, 65_534, 131_071, 131_072, 131_073, 64*65_536 - 2, 64*65_536 - 1}, rooms...) {
		x, _ := made(t, 64, room, 1)
		for left := room; left > 0 && x.Len() < 64; {
			n := min(left, 65_536)
			if left < 65_536 {
				if o, e := x.Pin(left + 1); o != (api.Outer{}) || e != api.ErrFull {
					t.Errorf("%d of %d bytes are left: Pin of one more = %v, %d", left, room, o, e)
				}
			}
			if o, e := x.Pin(n); o != id((room-left)/65_536, 1) || e != api.OK {
				t.Errorf("%d of %d bytes are left: Pin(%d) = %v, %d", left, room, n, o, e)
			}
			left -= n
		}
		if used := x.Used(); used != min(room, 64*65_536) {
			t.Errorf("Used: %d of %d", used, room)
		}
		if o, e := x.Pin(1); o != (api.Outer{}) || e != api.ErrFull {
			t.Errorf("no byte of %d is left: Pin = %v, %d", room, o, e)
		}
	}
}

func TestNewRefuses(t *testing.T) {
	refused := func(size int, room int, first uint32) {
		t.Helper()
		if x, e := New(size, room, first); x != nil || e != api.ErrArg {
			t.Errorf("New(%d, %d, %d) = %v, %d", size, room, first, x, e)
		}
	}
	for _, size := range noSizes {
		for _, room := range slices.Concat(rooms, noRooms) {
			for _, first := range append([]uint32{0}, firsts...) {
				refused(size, room, first)
			}
		}
	}
	for size := 1; size <= 64; size++ {
		for _, room := range noRooms {
			for _, first := range append([]uint32{0}, firsts...) {
				refused(size, room, first)
			}
		}
		for _, room := range rooms {
			refused(size, room, 0)
		}
	}
}

func TestNewPoolsAreIndependent(t *testing.T) {
	a, p := made(t, 3, 50, 5)
	b, q := made(t, 3, 50, 5)
	pins(t, a, p, 16, 17)
	unpins(t, a, p, id(0, 5))
	has(t, a, p)
	has(t, b, q)
	pins(t, b, q, 41, 9)
	has(t, a, p)
	has(t, b, q)
}

func TestCopy(t *testing.T) {
	for _, size := range sizes {
		for _, first := range firsts {
			for _, room := range rooms {
				x, p := made(t, size, room, first)
				has(t, x.Copy(), p)
			}
			x, p := filled(t, size, first)
			has(t, x.Copy(), p)
			unpins(t, x, p, id(size/2, first))
			c := x.Copy()
			if c == nil || c == x {
				t.Fatal("the copy is", c)
			}
			has(t, c, p)
			has(t, c.Copy(), p)
			has(t, x, p)
		}
	}
	x, p := mixed(t)
	has(t, x.Copy(), p)
}

// changes are calls that change a pool of mixed, each in another way.
func changes(t *testing.T) map[string]func(x *Pool, p plan) {
	return map[string]func(x *Pool, p plan){
		"Pin":            func(x *Pool, p plan) { pins(t, x, p, 70) },
		"Pin all":        func(x *Pool, p plan) { pins(t, x, p, 60, 9, 1) },
		"Unpin":          func(x *Pool, p plan) { unpins(t, x, p, id(3, last-1)) },
		"Unpin the last": func(x *Pool, p plan) { unpins(t, x, p, id(0, last)) },
		"Unpin, Pin":     func(x *Pool, p plan) { unpins(t, x, p, id(4, last), id(3, last-1)); pins(t, x, p, 55) },
		"the same bytes": func(x *Pool, p plan) { unpins(t, x, p, id(3, last-1)); pins(t, x, p, 5) },
		"Unpin all":      func(x *Pool, p plan) { unpins(t, x, p, p.all()...) },
		"all of them": func(x *Pool, p plan) {
			for range 8 {
				pins(t, x, p, 40, 25, 20, 10)
				unpins(t, x, p, p.all()...)
			}
		},
	}
}

func TestCopyIsIndependent(t *testing.T) {
	for one, change := range changes(t) {
		for two, other := range changes(t) {
			for _, changesCopy := range []bool{false, true} {
				changed, p := mixed(t)
				left, q := changed.Copy(), p.clone()
				if changesCopy {
					changed, left = left, changed
				}
				if change(changed, p); p.equal(q) {
					t.Error(one, "changes nothing")
				}
				is(t, changed, p)
				is(t, left, q)
				// The other one goes on, behind the first one's back.
				other(left, q)
				has(t, changed, p)
				has(t, left, q)
				if t.Failed() {
					t.Fatal(one, two, changesCopy)
				}
			}
		}
	}
}

// P10.2

func TestPin(t *testing.T) {
	x, _ := made(t, 4, much, 9)
	for i := range 4 {
		if o, e := x.Pin(5); o != id(i, 9) || e != api.OK {
			t.Error("Pin", i, o, e)
		}
		if n, e := x.Bytes(id(i, 9)); n != 5 || e != api.OK || x.Used() != 5*(i+1) {
			t.Error("Bytes, Used", i, n, e, x.Used())
		}
	}
	for range 3 {
		if o, e := x.Pin(5); o != (api.Outer{}) || e != api.ErrFull {
			t.Error("Pin, when all ids are pinned:", o, e)
		}
	}
}

func TestPinOfAnyBytes(t *testing.T) {
	x, p := made(t, 2, 65_536, 1)
	for n := 1; n <= 65_536; n++ {
		o, e := x.Pin(n)
		if got, f := x.Bytes(o); e != api.OK || got != n || f != api.OK || x.Used() != n {
			t.Fatal("Pin, Bytes, Used", n, o, e, got, f, x.Used())
		}
		if e := x.Unpin(o); e != api.OK || x.Used() != 0 {
			t.Fatal("Unpin, Used", n, o, e, x.Used())
		}
	}
	p.places[0].gen += 65_536
	has(t, x, p)
	for _, n := range someBytes {
		for _, m := range someBytes {
			x, p := made(t, 3, 2*n+m, 1)
			pins(t, x, p, n, m, n)
			has(t, x, p)
		}
	}
}

// Bytes that are not possible are refused whether there is room or not.
func TestPinRefusesBytes(t *testing.T) {
	for name, start := range map[string]func() (*Pool, plan){
		"empty":            func() (*Pool, plan) { return made(t, 2, much, 1) },
		"small":            func() (*Pool, plan) { return made(t, 2, 1, 1) },
		"without free ids": func() (*Pool, plan) { return filled(t, 2, 1) },
		"without bytes":    func() (*Pool, plan) { x, p := made(t, 2, 9, 1); pins(t, x, p, 9); return x, p },
		"full":             func() (*Pool, plan) { x, p := made(t, 1, 9, 1); pins(t, x, p, 9); return x, p },
		"mixed":            func() (*Pool, plan) { return mixed(t) },
		"retired":          func() (*Pool, plan) { x, p := filled(t, 2, last); unpins(t, x, p, p.all()...); return x, p },
	} {
		x, p := start()
		for _, n := range noBytes {
			if o, e := x.Pin(n); o != (api.Outer{}) || e != api.ErrArg {
				t.Errorf("Pin(%d) of a pool that is %s = %v, %d", n, name, o, e)
			}
			listed(t, x, p)
		}
		has(t, x, p)
	}
}

func TestBytesBesideTheEnds(t *testing.T) {
	for _, x := range []struct {
		bytes int
		e     api.Errno
	}{{-2, api.ErrArg}, {-1, api.ErrArg}, {0, api.ErrArg}, {1, api.OK}, {2, api.OK}, {65_535, api.OK}, {65_536, api.OK}, {65_537, api.ErrArg}, {65_538, api.ErrArg}} {
		pool, _ := made(t, 1, much, 3)
		want := id(0, 3)
		if x.e != api.OK {
			want = api.Outer{}
		}
		if o, e := pool.Pin(x.bytes); o != want || e != x.e {
			t.Error("Pin", x.bytes, o, e)
		}
	}
}

// Just as many bytes as are left can be pinned, and not one more, whatever is pinned, and whatever was.
func TestPinOfTheBytesThatAreLeft(t *testing.T) {
	for _, room := range []int{1, 2, 3, 10, 65_535, 65_536} {
		for _, before := range []int{0, 1, room / 2, room - 1, room} {
			for _, over := range []int{0, 1, room} {
				x, p := made(t, 3, room, 7)
				if over > 0 {
					pins(t, x, p, over)
					unpins(t, x, p, id(0, 7))
				}
				if before > 0 {
					pins(t, x, p, before)
				}
				left := room - p.used()
				want := api.ErrFull
				if left == 65_536 {
					want = api.ErrArg
				}
				if o, e := x.Pin(left + 1); o != (api.Outer{}) || e != want {
					t.Errorf("Pin of one byte more than the %d that are left = %v, %d", left, o, e)
				}
				if left > 0 {
					if o, e := x.Pin(left); o.Kind != 2 || e != api.OK {
						t.Errorf("Pin of the %d bytes that are left = %v, %d", left, o, e)
					}
					p.pinned(left)
				}
				if o, e := x.Pin(1); o != (api.Outer{}) || e != api.ErrFull || x.Used() != room {
					t.Errorf("Pin of a byte when none is left = %v, %d; Used %d of %d", o, e, x.Used(), room)
				}
				has(t, x, p)
			}
		}
	}
}

// One of the two is missing, then the other one, then both.
func TestPinWithoutIdsOrBytes(t *testing.T) {
	x, p := made(t, 2, 100, 5)
	pins(t, x, p, 1, 1)
	for _, n := range []int{1, 97, 98, 99, 65_536} {
		if o, e := x.Pin(n); o != (api.Outer{}) || e != api.ErrFull {
			t.Error("Pin without a free id:", n, o, e)
		}
	}
	unpins(t, x, p, id(0, 5), id(1, 5))
	pins(t, x, p, 60)
	for _, n := range []int{41, 42, 100, 65_536} {
		if o, e := x.Pin(n); o != (api.Outer{}) || e != api.ErrFull {
			t.Error("Pin without enough bytes:", n, o, e)
		}
	}
	is(t, x, p)
	// The id that the refused calls did not take is there.
	if o, e := x.Pin(40); o != id(1, 6) || e != api.OK {
		t.Error("Pin", o, e)
	}
	p.places[1].bytes = 40
	for _, n := range []int{1, 40, 41, 65_536} {
		if o, e := x.Pin(n); o != (api.Outer{}) || e != api.ErrFull {
			t.Error("Pin without either:", n, o, e)
		}
	}
	has(t, x, p)
}

// Whatever buffers are unpinned, in whatever order, their ids are pinned again by the lowest.
func TestPinTakesTheLowestId(t *testing.T) {
	for count := 1; count <= 5; count++ {
		orders(5, func(order []int) {
			x, p := filled(t, 5, 9)
			back := slices.Clone(order[:count])
			for _, i := range back {
				if e := x.Unpin(id(i, 9)); e != api.OK {
					t.Error("Unpin", i, e)
				}
				p.places[i] = place{gen: 10}
			}
			for _, i := range slices.Sorted(slices.Values(back)) {
				if o, e := x.Pin(i + 1); o != id(i, 10) || e != api.OK {
					t.Error("Pin", o, e, "want", i, "of", back)
				}
				p.places[i] = place{10, i + 1}
			}
			if o, e := x.Pin(1); o != (api.Outer{}) || e != api.ErrFull {
				t.Error("Pin", o, e)
			}
			listed(t, x, p)
		})
	}
}

func TestPinOfTheGreatestPool(t *testing.T) {
	x, p := made(t, 64, much, 1)
	pins(t, x, p, slices.Repeat([]int{65_536}, 65)...)
	is(t, x, p)
	for i := range 64 {
		// The step and 65 are without a common divisor: all ids are unpinned, and pinned again at once.
		o := id((i+1)*8%65-1, 1)
		if e := x.Unpin(o); e != api.OK {
			t.Error("Unpin", o, e)
		}
		if again, e := x.Pin(i + 1); again != id(o.Id, 2) || e != api.OK {
			t.Error("Pin", again, e, "want", o.Id)
		}
		p.places[o.Id] = place{2, i + 1}
		listed(t, x, p)
		pins(t, x, p, 5)
	}
	is(t, x, p)
}

func TestRetiredIdsAreNotPinned(t *testing.T) {
	for _, size := range sizes {
		// All of them, from the first one on and from the last one on, until none is left.
		for _, backwards := range []bool{false, true} {
			x, p := filled(t, size, last)
			for i := range size {
				o := id(i, last)
				if backwards {
					o.Id = size - 1 - i
				}
				if e := x.Unpin(o); e != api.OK {
					t.Error("Unpin", o, e)
				}
				p.places[o.Id] = place{gen: end + 1}
				for _, n := range []int{1, 5, 65_536} {
					if o, e := x.Pin(n); o != (api.Outer{}) || e != api.ErrFull {
						t.Error("Pin", o, e)
					}
				}
				listed(t, x, p)
			}
			is(t, x, p)
			is(t, x.Copy(), p)
		}
	}
	// Beside ids that are not retired.
	x, p := filled(t, 3, last-1)
	unpins(t, x, p, id(1, last-1))
	pins(t, x, p, 4)
	unpins(t, x, p, id(1, last), id(2, last-1))
	if o, e := x.Pin(6); o != id(2, last) || e != api.OK {
		t.Error("Pin", o, e)
	}
	p.places[2] = place{end, 6}
	if o, e := x.Pin(7); o != (api.Outer{}) || e != api.ErrFull {
		t.Error("Pin", o, e)
	}
	is(t, x, p)
}

// P10.3

func TestBytesAndUnpin(t *testing.T) {
	for _, x := range []struct {
		o     api.Outer
		bytes int
		e     api.Errno
	}{
		// Pinned, in the last generation.
		{id(0, last), 14, api.OK},
		{id(0, last-1), 0, api.ErrStale},
		{id(0, last-2), 0, api.ErrStale},
		{id(0, 1), 0, api.ErrStale},
		{id(0, 0), 0, api.ErrStale},
		// Retired.
		{id(1, last), 0, api.ErrStale},
		{id(1, last-1), 0, api.ErrStale},
		{id(1, 0), 0, api.ErrStale},
		{id(2, last), 0, api.ErrStale},
		// Pinned, in the first generation.
		{id(3, last-1), 5, api.OK},
		{id(3, last), 0, api.ErrStale},
		{id(3, last-2), 0, api.ErrStale},
		{id(3, 0), 0, api.ErrStale},
		{id(4, last), 6, api.OK},
		{id(5, last-1), 5, api.OK},
		{id(5, last), 0, api.ErrStale},
		// Free, and pinned before.
		{id(6, last), 0, api.ErrStale},
		{id(6, last-1), 0, api.ErrStale},
		{id(6, 1), 0, api.ErrStale},
		{id(6, 0), 0, api.ErrStale},
		// Never pinned.
		{id(7, last), 0, api.ErrStale},
		{id(7, last-1), 0, api.ErrStale},
		{id(7, 1), 0, api.ErrStale},
		{id(7, 0), 0, api.ErrStale},
		// The pool does not have the id.
		{id(8, last-1), 0, api.ErrRange},
		{id(8, last), 0, api.ErrRange},
		{id(8, 1), 0, api.ErrRange},
		{id(8, 0), 0, api.ErrRange},
		{id(63, 1), 0, api.ErrRange},
		{id(63, last), 0, api.ErrRange},
		{id(63, 0), 0, api.ErrRange},
		{id(64, last), 0, api.ErrRange},
		{id(64, 0), 0, api.ErrRange},
		{id(-1, last), 0, api.ErrRange},
		{id(-1, 0), 0, api.ErrRange},
		{id(256, last), 0, api.ErrRange},
		{id(1<<32, last), 0, api.ErrRange},
		{id(1<<32+3, last-1), 0, api.ErrRange},
		{id(math.MaxInt, last), 0, api.ErrRange},
		{id(math.MinInt, last), 0, api.ErrRange},
		// The Kind is another one, of an id that is pinned, of a stale one, and of one that there is not.
		{api.Outer{Kind: 1, Id: 0, Gen: last}, 0, api.ErrArg},
		{api.Outer{Kind: 3, Id: 3, Gen: last - 1}, 0, api.ErrArg},
		{api.Outer{Kind: 1, Id: 1, Gen: last}, 0, api.ErrArg},
		{api.Outer{Kind: 3, Id: 8, Gen: 1}, 0, api.ErrArg},
		{api.Outer{Kind: 1, Id: -1, Gen: 0}, 0, api.ErrArg},
		{api.Outer{Kind: 3, Id: 64, Gen: last}, 0, api.ErrArg},
		{api.Outer{Kind: 0, Id: 0, Gen: last}, 0, api.ErrArg},
		{api.Outer{Kind: 4, Id: 0, Gen: last}, 0, api.ErrArg},
		{api.Outer{Kind: -2, Id: 0, Gen: last}, 0, api.ErrArg},
		{api.Outer{Kind: 1<<32 + 2, Id: 0, Gen: last}, 0, api.ErrArg},
		{api.Outer{}, 0, api.ErrArg},
	} {
		pool, p := mixed(t)
		if n, e := pool.Bytes(x.o); n != x.bytes || e != x.e {
			t.Errorf("Bytes(%v) = %d, %d, want %d, %d", x.o, n, e, x.bytes, x.e)
		}
		is(t, pool, p)
		if e := pool.Unpin(x.o); e != x.e {
			t.Errorf("Unpin(%v) = %d, want %d", x.o, e, x.e)
		}
		if x.e == api.OK {
			p.places[x.o.Id] = place{gen: uint64(x.o.Gen) + 1}
		}
		has(t, pool, p)
	}
}

func TestOtherKinds(t *testing.T) {
	x, p := filled(t, 64, 3)
	for _, kind := range otherKinds {
		for i := range 64 {
			o := api.Outer{Kind: kind, Id: i, Gen: 3}
			if n, e := x.Bytes(o); n != 0 || e != api.ErrArg {
				t.Error("Bytes", o, n, e)
			}
			if e := x.Unpin(o); e != api.ErrArg {
				t.Error("Unpin", o, e)
			}
		}
	}
	has(t, x, p)
}

func TestUnpin(t *testing.T) {
	for _, size := range sizes {
		for _, first := range firsts {
			for i := range size {
				x, p := filled(t, size, first)
				if e := x.Unpin(id(i, first)); e != api.OK {
					t.Error("Unpin", size, i, first, e)
				}
				p.places[i] = place{gen: uint64(first) + 1}
				listed(t, x, p)
				for range 2 {
					if n, e := x.Bytes(id(i, first)); n != 0 || e != api.ErrStale {
						t.Error("Bytes of a buffer that was unpinned:", n, e)
					}
					if e := x.Unpin(id(i, first)); e != api.ErrStale {
						t.Error("Unpin again:", e)
					}
				}
				has(t, x, p)
			}
		}
	}
}

// Each id on both sides of the ends, for a pool of every size: before a buffer is pinned, and while all are.
func TestIdsThatAPoolDoesNotHave(t *testing.T) {
	for size := 1; size <= 64; size++ {
		x, _ := made(t, size, 64, 2)
		for _, pinned := range []bool{false, true} {
			for i := -2; i <= 66; i++ {
				want := api.ErrRange
				switch {
				case i >= 0 && i < size && pinned:
					want = api.OK
				case i >= 0 && i < size:
					want = api.ErrStale
				}
				if n, e := x.Bytes(id(i, 2)); e != want || (e == api.OK) != (n == 1) {
					t.Errorf("Bytes of %d of %d: %d, %d, want %d", i, size, n, e, want)
				}
				if want == api.OK {
					continue
				}
				if e := x.Unpin(id(i, 2)); e != want {
					t.Errorf("Unpin of %d of %d: %d, want %d", i, size, e, want)
				}
			}
			for i := range size {
				if o, e := x.Pin(1); !pinned && (o != id(i, 2) || e != api.OK) {
					t.Errorf("Pin of %d of %d: %v, %d", i, size, o, e)
				}
			}
		}
	}
}

// P10.4

func TestUsedAllAndLen(t *testing.T) {
	x, p := mixed(t)
	if l := x.All(); !slices.Equal(l, []api.Outer{id(0, last), id(3, last-1), id(4, last), id(5, last-1)}) || x.Len() != 4 || x.Used() != 30 {
		t.Error("All, Len, Used:", l, x.Len(), x.Used())
	}
	listed(t, x, p)
	for _, size := range sizes {
		x, p := made(t, size, much, last-1)
		listed(t, x, p)
		for i := range size {
			pins(t, x, p, 65_536-i)
			listed(t, x, p)
		}
		// Each third one, so that there are gaps, and then all.
		for step := 3; step > 0; step -= 2 {
			for i := 0; i < size; i += step {
				unpins(t, x, p, id(i, last-1))
				listed(t, x, p)
			}
		}
		if n, used, l := x.Len(), x.Used(), x.All(); n != 0 || used != 0 || len(l) != 0 {
			t.Error("Len, Used, All of a pool without buffers:", n, used, l)
		}
	}
}

func TestUsedOfTheGreatestPool(t *testing.T) {
	x, _ := made(t, 64, much, 1)
	for i := range 64 {
		x.Pin(65_536)
		if used := x.Used(); used != 65_536*(i+1) {
			t.Error("Used", used, "of", i+1)
		}
	}
	for i := range 64 {
		x.Unpin(id(i, 1))
		if used := x.Used(); used != 65_536*(63-i) {
			t.Error("Used", used, "without", i+1)
		}
	}
}

func TestAllIsInTheOrderOfIds(t *testing.T) {
	x, p := filled(t, 5, 3)
	unpins(t, x, p, id(4, 3), id(2, 3), id(0, 3))
	pins(t, x, p, 9_000, 1)
	if l := x.All(); !slices.Equal(l, []api.Outer{id(0, 4), id(1, 3), id(2, 4), id(3, 3)}) {
		t.Error("All", l)
	}
	x, p = filled(t, 64, 3)
	for i := range 64 {
		unpins(t, x, p, id((i+1)*8%65-1, 3))
		pins(t, x, p, i+1)
	}
	l := x.All()
	for i, o := range l {
		if o != id(i, 4) {
			t.Error("All", i, o)
		}
	}
	if len(l) != 64 || x.Len() != 64 {
		t.Error("All, Len:", len(l), x.Len())
	}
}

// R4

func TestAllIsNewMemory(t *testing.T) {
	for _, size := range sizes {
		x, p := filled(t, size, 6)
		a, b := x.All(), x.All()
		for i := range a {
			a[i] = id(63-i, 1)
		}
		_ = append(a[:0], id(0, 9))
		clear(a[:cap(a)])
		if want := p.all(); !slices.Equal(b, want) {
			t.Error("two results share memory:", b)
		}
		is(t, x, p)
		// What comes later does not change what was returned.
		before := slices.Clone(b)
		unpins(t, x, p, p.all()...)
		pins(t, x, p, 3)
		if !slices.Equal(b, before) {
			t.Error("a result is changed by later calls:", b)
		}
		has(t, x, p)
	}
}

// What an assignment of the struct made is the same pool: its ids and their bytes stay together.
func TestAssignedPools(t *testing.T) {
	x, p := mixed(t)
	y := *x
	pins(t, x, p, 50)
	unpins(t, &y, p, id(3, last-1))
	pins(t, &y, p, 24)
	is(t, x, p)
	is(t, &y, p)
	has(t, y.Copy(), p)
}

// P10.5 and P10.6

// watched is a pool, and what was noted about the calls that changed it.
type watched struct {
	*Pool
	size, room, retired int
	pinned              map[int]api.Outer // by their ids
	bytes               map[api.Outer]int // of all names that were given
	over                []api.Outer
	noBytes, noId       int // how often there was none to pin
}

func (w *watched) used() int {
	used := 0
	for _, o := range w.pinned {
		used += w.bytes[o]
	}
	return used
}

// pin pins a buffer, which succeeds exactly if an id is free, and there are so many bytes.
func (w *watched) pin(t *testing.T, n int) {
	fits, free := w.used()+n <= w.room, len(w.pinned)+w.retired < w.size
	o, e := w.Pin(n)
	if !fits || !free {
		if o != (api.Outer{}) || e != api.ErrFull {
			t.Fatalf("Pin(%d) = %v, %d without room", n, o, e)
		}
		if !fits {
			w.noBytes++
		}
		if !free {
			w.noId++
		}
		return
	}
	_, is := w.pinned[o.Id]
	_, was := w.bytes[o]
	if is || was || e != api.OK {
		t.Fatalf("Pin(%d) = %v, %d; the id is pinned: %t, the name was given: %t", n, o, e, is, was)
	}
	w.pinned[o.Id], w.bytes[o] = o, n
}

// unpin unpins one of the buffers that are pinned.
func (w *watched) unpin(t *testing.T, which int) {
	ids := slices.Sorted(maps.Keys(w.pinned))
	o := w.pinned[ids[which%len(ids)]]
	if e := w.Unpin(o); e != api.OK {
		t.Fatal("Unpin", o, e)
	}
	delete(w.pinned, o.Id)
	w.over = append(w.over, o)
	if o.Gen == last {
		w.retired++
	}
}

// check asks for what is pinned, and for what is over: the latest ones, and others that a number says.
func (w *watched) check(t *testing.T, n int) {
	for _, o := range w.pinned {
		if n, e := w.Bytes(o); n != w.bytes[o] || e != api.OK {
			t.Fatal("Bytes", o, n, e, "want", w.bytes[o])
		}
	}
	for i, o := range w.over {
		if len(w.over)-i > 10 && (n+i)%64 != 0 {
			continue
		}
		if n, e := w.Bytes(o); n != 0 || e != api.ErrStale {
			t.Fatal("Bytes", o, n, e)
		}
		if e := w.Unpin(o); e != api.ErrStale {
			t.Fatal("Unpin", o, e)
		}
	}
	if w.Len() != len(w.pinned) || w.Len() > w.size || w.Used() != w.used() || w.Used() > w.room {
		t.Fatal("Len, Used", w.Len(), w.Used(), "want", len(w.pinned), w.used())
	}
}

// No name is given twice; what is pinned is there with its bytes until it is unpinned, and is stale from then on; Pin succeeds exactly if there is room.
func TestNamesAndRoom(t *testing.T) {
	for _, size := range []int{1, 4, 64} {
		for _, first := range []uint32{1, 1 << 31, last - 30} {
			room := 20 * size
			x, _ := made(t, size, room, first)
			w := &watched{Pool: x, size: size, room: room, pinned: map[int]api.Outer{}, bytes: map[api.Outer]int{}}
			turns(4000, func(n uint64) {
				if n%2 == 0 || len(w.pinned) == 0 {
					w.pin(t, int(n/64%100)+1)
				} else {
					w.unpin(t, int(n/2%64))
				}
				w.check(t, int(n%64))
			})
			if w.noBytes == 0 || w.noId == 0 && size == 1 {
				t.Error("there was always room:", size, first, w.noBytes, w.noId)
			}
			if first == last-30 && size < 64 && (len(w.bytes) != size*31 || x.Len() != 0) {
				t.Error("the ids are not all retired:", len(w.bytes), x.Len())
			}
		}
	}
}

func TestUnpinnedNamesStayStale(t *testing.T) {
	x, p := filled(t, 3, last-5)
	over := []api.Outer{}
	for p.places[1].bytes > 0 {
		o := id(1, uint32(p.places[1].gen))
		unpins(t, x, p, o)
		over = append(over, o)
		for range 2 {
			for _, o := range over {
				if n, e := x.Bytes(o); n != 0 || e != api.ErrStale {
					t.Error("Bytes", o, n, e)
				}
				if e := x.Unpin(o); e != api.ErrStale {
					t.Error("Unpin", o, e)
				}
			}
			// Once while the id is free, and once while it is pinned again, with the same bytes.
			listed(t, x, p)
			pins(t, x, p, 1007)
		}
		has(t, x, p)
	}
	if len(over) != 6 {
		t.Error(over)
	}
}

// All pairs of what is pinned and what is asked for, in a small pool.
func TestRoom(t *testing.T) {
	for room := 1; room <= 12; room++ {
		for a := 1; a <= room; a++ {
			for b := 0; b <= room-a; b++ {
				for n := 1; n <= 14; n++ {
					x, _ := made(t, 3, room, 1)
					x.Pin(a)
					want := id(1, 1)
					if b > 0 {
						x.Pin(b)
						want.Id = 2
					}
					o, e := x.Pin(n)
					if fits := a+b+n <= room; fits && (o != want || e != api.OK || x.Used() != a+b+n) || !fits && (o != (api.Outer{}) || e != api.ErrFull || x.Used() != a+b) {
						t.Errorf("%d and %d of %d are pinned: Pin(%d) = %v, %d, Used %d", a, b, room, n, o, e, x.Used())
					}
				}
			}
		}
	}
}

// P10.7

// An id is pinned once in each generation from the first one to the last, and the other ids as often, whatever happens to it.
func TestTheEnd(t *testing.T) {
	for _, left := range []uint32{0, 1, 2, 20} {
		for _, size := range []int{1, 2, 5, 64} {
			x, p := made(t, size, size, last-left)
			for i := range size {
				count := 0
				for gen := last - left; ; gen++ {
					if o, e := x.Pin(1); o != id(i, gen) || e != api.OK {
						t.Fatal("Pin", i, gen, o, e)
					}
					if e := x.Unpin(id(i, gen)); e != api.OK {
						t.Fatal("Unpin", i, gen, e)
					}
					count++
					if gen == last {
						break
					}
				}
				if count != int(left)+1 {
					t.Error(i, "was pinned", count, "times of", left+1)
				}
				p.places[i] = place{gen: end + 1}
				is(t, x, p)
			}
			for range 3 {
				if o, e := x.Pin(1); o != (api.Outer{}) || e != api.ErrFull || x.Len() != 0 || x.Used() != 0 {
					t.Error("Pin, when all ids are retired:", o, e, x.Len(), x.Used())
				}
			}
		}
	}
}

// The bytes of a retired id are there for others.
func TestRetiredIdsHaveNoBytes(t *testing.T) {
	x, p := made(t, 3, 10, last)
	pins(t, x, p, 10, 1)
	unpins(t, x, p, id(0, last))
	pins(t, x, p, 10, 1)
	unpins(t, x, p, id(1, last))
	if x.Used() != 0 || x.Len() != 0 {
		t.Error("Used, Len", x.Used(), x.Len())
	}
	if o, e := x.Pin(10); o != id(2, last) || e != api.OK {
		t.Error("Pin", o, e)
	}
	p.places[2].bytes = 10
	has(t, x, p)
}

// Many generations are no others than few.
func TestManyGenerations(t *testing.T) {
	for _, first := range []uint32{1, 65_000, 1<<31 - 35_000, last - 70_000} {
		x, p := made(t, 2, 10, first)
		pins(t, x, p, 4)
		for k := range uint32(70_000) {
			if o, e := x.Pin(6); o != id(1, first+k) || e != api.OK || x.Unpin(o) != api.OK {
				t.Fatal("Pin", first, k, o, e)
			}
		}
		p.places[1].gen += 70_000
		has(t, x, p)
	}
}

// P10.8

func TestRefusalsAndQuestionsChangeNothing(t *testing.T) {
	x, p := mixed(t)
	for range 2 {
		for _, n := range append([]int{71, 72, 100, 65_536}, noBytes...) {
			x.Pin(n)
		}
		for _, o := range names(p) {
			x.Bytes(o)
			if _, e := p.bytes(o); e != api.OK {
				x.Unpin(o)
			}
		}
		x.All()
		x.Len()
		x.Used()
		c := x.Copy()
		c.Pin(3)
		c.Unpin(id(0, last))
		listed(t, x, p)
	}
	has(t, x, p)
	pins(t, x, p, 71, 68, 3, 1, 1)
	// No id is free now, and one byte is left.
	has(t, x, p)
	unpins(t, x, p, id(3, last-1))
	pins(t, x, p, 7, 6, 1)
	// No byte is left either.
	has(t, x, p)
}

// Each buffer is unpinned beside all others, which stay as they are.
func TestOthersAreLeft(t *testing.T) {
	for _, size := range sizes {
		for _, first := range firsts {
			for i := range size {
				x, p := filled(t, size, first)
				if e := x.Unpin(id(i, first)); e != api.OK {
					t.Error("Unpin", i, e)
				}
				x.Pin(4)
				l := slices.DeleteFunc(x.All(), func(o api.Outer) bool { return o.Id == i })
				for _, o := range l {
					if n, e := x.Bytes(o); o.Gen != first || n != p.places[o.Id].bytes || e != api.OK {
						t.Error("Bytes", o, n, e, "want", p.places[o.Id])
					}
				}
				if len(l) != size-1 {
					t.Error("All", l, "without", i, "of", size)
				}
			}
		}
	}
}

// Buffers with the same bytes are unpinned one by one.
func TestEqualBytes(t *testing.T) {
	orders(4, func(order []int) {
		for _, n := range []int{1, 5, 65_536} {
			x, p := made(t, 4, 4*n, 1)
			pins(t, x, p, n, n, n, n)
			for _, i := range order {
				unpins(t, x, p, id(i, 1))
				listed(t, x, p)
			}
			pins(t, x, p, n)
			has(t, x, p)
		}
	})
}

// TestShortSequences makes all sequences of a few changes, right ones and wrong ones, on pools close to the last generation.
func TestShortSequences(t *testing.T) {
	for _, size := range []int{1, 2} {
		var next func(x *Pool, p plan, left int)
		next = func(x *Pool, p plan, left int) {
			is(t, x, p)
			if left == 0 || t.Failed() {
				return
			}
			for _, n := range []int{4, 6, 7, 0} {
				c, q := x.Copy(), p.clone()
				pins(t, c, q, n)
				next(c, q, left-1)
			}
			for i := range size {
				for _, g := range []uint32{last - 1, last} {
					c, q := x.Copy(), p.clone()
					unpins(t, c, q, id(i, g))
					next(c, q, left-1)
				}
			}
			listed(t, x, p)
		}
		x, p := made(t, size, 10, last-1)
		next(x, p, 6-size)
	}
}

func TestLongSequences(t *testing.T) {
	for _, size := range []int{1, 3, 64} {
		// The bytes are many, so that the ids come to an end first, and few, so that the bytes do.
		for _, room := range []int{much, size * 20_000} {
			for _, first := range []uint32{1, last - 20} {
				x, p := made(t, size, room, first)
				mostIds, mostUsed := 0, 0
				turns(4000, func(n uint64) {
					i := int(n / 16 % uint64(size+1))
					gen := first
					if i < size {
						gen = uint32(p.places[i].gen)
					}
					switch n % 16 {
					case 0:
						unpins(t, x, p, id(i, gen-1))
					case 1, 2, 3, 4:
						unpins(t, x, p, id(i, gen))
					case 5:
						x, p = x.Copy(), p.clone()
					case 6:
						if left := p.room - p.used(); left < 65_536 {
							pins(t, x, p, left+1, left)
						}
					default:
						pins(t, x, p, int(n/64%65_539)-1)
					}
					mostIds, mostUsed = max(mostIds, len(p.all())), max(mostUsed, p.used())
					if listed(t, x, p); n%97 == 0 {
						is(t, x, p)
					}
					if t.Failed() {
						t.FailNow()
					}
				})
				has(t, x, p)
				if room == much && mostIds != size || room != much && mostUsed != room {
					t.Error("the pool was never full:", size, room, mostIds, mostUsed)
				}
			}
		}
	}
}

// R2

func TestPoolsThatAreNotValid(t *testing.T) {
	for name, x := range map[string]*Pool{"nil": nil, "zero": {}, "new": new(Pool)} {
		for range 2 {
			// ErrNil comes before what is wrong with the arguments.
			for _, n := range slices.Concat(someBytes, noBytes) {
				if o, e := x.Pin(n); o != (api.Outer{}) || e != api.ErrNil {
					t.Error(name, "Pin", n, o, e)
				}
			}
			for _, o := range names(planned(3, 100, 1)) {
				if n, e := x.Bytes(o); n != 0 || e != api.ErrNil {
					t.Error(name, "Bytes", o, n, e)
				}
				if e := x.Unpin(o); e != api.ErrNil {
					t.Error(name, "Unpin", o, e)
				}
			}
			if l := x.All(); len(l) != 0 {
				t.Error(name, "All", l)
			}
			if n := x.Len(); n != 0 {
				t.Error(name, "Len", n)
			}
			if n := x.Used(); n != 0 {
				t.Error(name, "Used", n)
			}
			if c := x.Copy(); c != nil {
				t.Error(name, "Copy", c)
			}
		}
	}
}

// R8

func TestEqualCallsReturnEqualResults(t *testing.T) {
	for _, change := range changes(t) {
		a, p := mixed(t)
		change(a, p)
		for range 3 {
			b, q := mixed(t)
			c, r := b.Copy(), q.clone()
			change(b, q)
			change(c, r)
			if l := a.All(); !slices.Equal(l, b.All()) || !slices.Equal(l, c.All()) {
				t.Error("All:", l, b.All(), c.All())
			}
			if used := a.Used(); used != b.Used() || used != c.Used() {
				t.Error("Used:", used, b.Used(), c.Used())
			}
			has(t, b, p)
			has(t, c, p)
		}
	}
}

// The examples of the chapter.

func TestExamples(t *testing.T) {
	x, _ := made(t, 2, 100, 5)
	pinned := func(bytes int, want api.Outer, wantE api.Errno) {
		t.Helper()
		if o, e := x.Pin(bytes); o != want || e != wantE {
			t.Error("Pin", bytes, o, e)
		}
	}
	asked := func(o api.Outer, want int, wantE api.Errno) {
		t.Helper()
		if n, e := x.Bytes(o); n != want || e != wantE {
			t.Error("Bytes", o, n, e)
		}
	}
	unpinned := func(o api.Outer, want api.Errno) {
		t.Helper()
		if e := x.Unpin(o); e != want {
			t.Error("Unpin", o, e)
		}
	}
	pinned(60, id(0, 5), api.OK)
	pinned(50, api.Outer{}, api.ErrFull)
	pinned(40, id(1, 5), api.OK)
	pinned(1, api.Outer{}, api.ErrFull)
	if x.Used() != 100 || x.Len() != 2 {
		t.Error("Used, Len", x.Used(), x.Len())
	}
	asked(id(0, 5), 60, api.OK)
	asked(id(0, 6), 0, api.ErrStale)
	asked(id(2, 5), 0, api.ErrRange)
	unpinned(id(0, 5), api.OK)
	unpinned(id(0, 5), api.ErrStale)
	pinned(10, id(0, 6), api.OK)
	pinned(0, api.Outer{}, api.ErrArg)
	pinned(65_537, api.Outer{}, api.ErrArg)
	unpinned(api.Outer{Kind: api.KindFile, Id: 0, Gen: 6}, api.ErrArg)
	x, _ = made(t, 2, 100, last)
	pinned(1, id(0, last), api.OK)
	unpinned(id(0, last), api.OK)
	pinned(1, id(1, last), api.OK)
}
