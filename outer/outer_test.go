package outer

import (
	"maps"
	"math"
	"slices"
	"strings"
	"testing"

	"estray/api"
)

const (
	last    = api.MaxGen
	latest  = int64(1_099_511_627_776)
	longest = int64(1_048_576)
	most    = 10_000 // attempts of a ledger
)

// The kinds, why something is released, and the answers: with the numbers of the document.
const (
	file, buffer, lease     = 1, 2, 3
	closed, expired, gone   = 1, 2, 3
	ansOK, ansLater, ansBad = 1, 2, 3
)

var (
	// firsts are the first generations, the last ones, and some between.
	firsts = []uint32{1, 2, 7, 1 << 31, last - 2, last - 1, last}
	// whys are all of them, noWhys none; some would be some in fewer bits.
	whys   = []int{closed, expired, gone}
	noWhys = []int{math.MinInt, -1<<32 + 1, -3, -2, -1, 0, 4, 5, 257, 1<<32 + 1, 1<<32 + 3, math.MaxInt}
	// noKinds are none; some would be some in fewer bits.
	noKinds = []int{math.MinInt, -1<<32 + 1, -3, -2, -1, 0, 4, 5, 257, 1<<32 + 1, 1<<32 + 3, math.MaxInt}
	// noIds are not possible; some would be possible in fewer bits.
	noIds = []int{math.MinInt, -1 << 32, -64, -2, -1, 64, 65, 255, 256, 1 << 32, 1<<32 + 1, math.MaxInt}
	// spans are the least and the greatest ones, and some between.
	spans = []int64{1, 2, 10, 65_535, 65_536, longest - 1, longest}
	// noSpans are none; some would be spans in fewer bits, or are times, and some make sums of 64 bits overflow.
	noSpans = []int64{math.MinInt64, -1<<32 + 5, -longest, -2, -1, 0, longest + 1, longest + 2, 1 << 32, 1<<32 + 5, latest, latest + 1, math.MaxInt64 - latest, math.MaxInt64 - 1, math.MaxInt64}
	// ends are the least and the greatest good numbers, by the kinds.
	ends = map[int][2]int{file: {0, 65_535}, buffer: {1, 65_536}, lease: {1, 1_048_576}}
)

func id(kind, n int, gen uint32) api.Outer { return api.Outer{Kind: kind, Id: n, Gen: gen} }

// spot is what a number of a kind has to be: it is used up if its generation is beyond the last one.
type spot struct {
	gen   uint64
	there bool
	bytes int   // of a buffer
	until int64 // of a lease
}

// plan is what a world has to be: the chapter's words, and those that it uses of other chapters, written out a second time.
type plan struct {
	now    int64
	spots  [3][64]spot // from the first kind on
	coming string      // the letters of the answers
	book   []api.Attempt
}

func planned(first uint32) *plan {
	p := &plan{}
	for k := range p.spots {
		for i := range p.spots[k] {
			p.spots[k][i].gen = uint64(first)
		}
	}
	return p
}

func (p *plan) clone() *plan {
	c := *p
	c.book = slices.Clone(p.book)
	return &c
}

// good says which numbers are good for a kind; none is for what is no kind.
func good(kind, arg int) bool {
	end, is := ends[kind]
	return is && end[0] <= arg && arg <= end[1]
}

// acquirable says what Acquire returns if the answer is ok, or is not asked for.
func (p *plan) acquirable(kind, arg int) (api.Outer, api.Errno) {
	switch {
	case !good(kind, arg):
		return api.Outer{}, api.ErrArg
	case kind == lease && p.now > latest-int64(arg):
		return api.Outer{}, api.ErrOver
	}
	free, bytes := -1, 0
	for i, x := range p.spots[kind-1] {
		if x.there {
			bytes += x.bytes
		} else if x.gen <= uint64(last) && free < 0 {
			free = i
		}
	}
	if free < 0 || kind == buffer && bytes+arg > 1_048_576 {
		return api.Outer{}, api.ErrFull
	}
	return id(kind, free, uint32(p.spots[kind-1][free].gen)), api.OK
}

// next uses up an answer.
func (p *plan) next() int {
	if p.coming == "" {
		return ansOK
	}
	a := map[byte]int{'o': ansOK, 'l': ansLater, 'f': ansBad}[p.coming[0]]
	p.coming = p.coming[1:]
	return a
}

func (p *plan) acquire(kind, arg int) (api.Outer, api.Errno) {
	o, e := p.acquirable(kind, arg)
	if e != api.OK {
		return o, e
	}
	switch p.next() {
	case ansLater:
		return api.Outer{}, api.ErrLater
	case ansBad:
		return api.Outer{}, api.ErrFail
	}
	x := spot{gen: uint64(o.Gen), there: true}
	switch kind {
	case buffer:
		x.bytes = arg
	case lease:
		x.until = p.now + int64(arg)
	}
	p.spots[kind-1][o.Id] = x
	return o, api.OK
}

// check returns the first error that a resource alone brings about.
func (p *plan) check(o api.Outer) api.Errno {
	if o.Kind < file || o.Kind > lease || o.Id < 0 || o.Id > 63 || o.Gen == 0 {
		return api.ErrArg
	}
	if x := p.spots[o.Kind-1][o.Id]; !x.there || x.gen != uint64(o.Gen) {
		return api.ErrNone
	}
	return api.OK
}

// releasable, renewable and tickable say which errors Release, Renew and Tick return.
func (p *plan) releasable(o api.Outer, why int) api.Errno {
	e := p.check(o)
	switch {
	case e == api.ErrArg || !slices.Contains(whys, why):
		return api.ErrArg
	case e == api.OK && len(p.book) == most:
		return api.ErrFull
	}
	return e
}

func (p *plan) release(o api.Outer, why int) (int, api.Errno) {
	if e := p.releasable(o, why); e != api.OK {
		return 0, e
	}
	a := p.next()
	p.book = append(p.book, api.Attempt{At: p.now, Out: o, Why: why, Answer: a})
	if a == ansOK {
		p.spots[o.Kind-1][o.Id] = spot{gen: uint64(o.Gen) + 1}
	}
	return a, api.OK
}

func aSpan(n int64) bool { return 1 <= n && n <= longest }

// ofLease returns the first error of Until, and of Renew if the ticks are a span.
func (p *plan) ofLease(o api.Outer) api.Errno {
	e := p.check(o)
	if e != api.ErrArg && o.Kind != lease {
		return api.ErrState
	}
	return e
}

func (p *plan) renewable(o api.Outer, ticks int64) api.Errno {
	e := p.ofLease(o)
	switch {
	case e == api.ErrArg || !aSpan(ticks):
		return api.ErrArg
	case e != api.OK:
		return e
	case p.spots[2][o.Id].until <= p.now:
		return api.ErrState
	case ticks > latest-p.now:
		return api.ErrOver
	}
	return api.OK
}

func (p *plan) renew(o api.Outer, ticks int64) api.Errno {
	e := p.renewable(o, ticks)
	if e == api.OK {
		p.spots[2][o.Id].until = p.now + ticks
	}
	return e
}

func (p *plan) tickable(ticks int64) api.Errno {
	switch {
	case !aSpan(ticks):
		return api.ErrArg
	case ticks > latest-p.now:
		return api.ErrOver
	}
	return api.OK
}

func (p *plan) tick(ticks int64) api.Errno {
	e := p.tickable(ticks)
	if e == api.OK {
		p.now += ticks
	}
	return e
}

func (p *plan) answerable(text string) api.Errno {
	switch {
	case len(text) > 2000:
		return api.ErrMany
	case strings.Trim(text, "olf") != "":
		return api.ErrForm
	case len(p.coming)+len(text) > 2000:
		return api.ErrMany
	}
	return api.OK
}

func (p *plan) answer(text string) api.Errno {
	e := p.answerable(text)
	if e == api.OK {
		p.coming += text
	}
	return e
}

// all returns the resources that are there; without kinds those of all kinds.
func (p *plan) all(of ...int) []api.Outer {
	var all []api.Outer
	for k := range p.spots {
		for i, x := range p.spots[k] {
			if x.there && (len(of) == 0 || slices.Contains(of, k+1)) {
				all = append(all, id(k+1, i, uint32(x.gen)))
			}
		}
	}
	return all
}

// acquires, releases, renews, ticks and answers change a world and its plan.
func acquires(t *testing.T, w *World, p *plan, kind int, args ...int) {
	t.Helper()
	for _, arg := range args {
		o, e := w.Acquire(kind, arg)
		if want, wantE := p.acquire(kind, arg); o != want || e != wantE {
			t.Errorf("Acquire(%d, %d) = %v, %d, want %v, %d", kind, arg, o, e, want, wantE)
		}
	}
}

func releases(t *testing.T, w *World, p *plan, why int, list ...api.Outer) {
	t.Helper()
	for _, o := range list {
		a, e := w.Release(o, why)
		if want, wantE := p.release(o, why); a != want || e != wantE {
			t.Errorf("Release(%v, %d) = %d, %d, want %d, %d", o, why, a, e, want, wantE)
		}
	}
}

func renews(t *testing.T, w *World, p *plan, o api.Outer, ticks int64) {
	t.Helper()
	if e, want := w.Renew(o, ticks), p.renew(o, ticks); e != want {
		t.Errorf("Renew(%v, %d) = %d, want %d", o, ticks, e, want)
	}
}

func ticks(t *testing.T, w *World, p *plan, list ...int64) {
	t.Helper()
	for _, n := range list {
		if e, want := w.Tick(n), p.tick(n); e != want {
			t.Errorf("Tick(%d) = %d, want %d", n, e, want)
		}
	}
}

func answers(t *testing.T, w *World, p *plan, text string) {
	t.Helper()
	if e, want := w.Answer(text), p.answer(text); e != want {
		t.Errorf("Answer(%.20q) = %d, want %d", text, e, want)
	}
}

// made returns a world of New, and its plan.
func made(t *testing.T, first uint32) (*World, *plan) {
	t.Helper()
	w, e := New(first)
	if e != api.OK || w == nil {
		t.Fatalf("New(%d) = %v, %d", first, w, e)
	}
	return w, planned(first)
}

// full returns a world all of whose numbers are taken, at the time 100, and its plan.
func full(t *testing.T, first uint32) (*World, *plan) {
	t.Helper()
	w, p := made(t, first)
	ticks(t, w, p, 100)
	for i := range 64 {
		acquires(t, w, p, file, i)
		acquires(t, w, p, buffer, 1+i)
		acquires(t, w, p, lease, 50+i)
	}
	if len(p.all()) != 3*64 {
		t.Fatal("not full:", p.all())
	}
	return w, p
}

// late returns a world of so many ticks before the last time, and its plan.
func late(t *testing.T, first uint32, before int64) (*World, *plan) {
	t.Helper()
	w, p := made(t, first)
	for p.now < latest-longest {
		if w.Tick(longest) != api.OK {
			t.Fatal("Tick at", p.now)
		}
		p.now += longest
	}
	ticks(t, w, p, longest-before)
	return w, p
}

// mixed returns a world at the time 20, and its plan, that has numbers of each kind in each state: taken in the last generation and in the one before it, used up, free after something was given back, and free from the start; leases that are over and others; attempts of all whys with all answers; and answers that are to come.
func mixed(t *testing.T) (*World, *plan) {
	t.Helper()
	w, p := made(t, last-1)
	for range 5 {
		acquires(t, w, p, file, 5)
		acquires(t, w, p, buffer, 60_000)
		acquires(t, w, p, lease, 20)
	}
	ticks(t, w, p, 5)
	for kind := file; kind <= lease; kind++ {
		releases(t, w, p, kind, id(kind, 0, last-1), id(kind, 1, last-1))
		answers(t, w, p, "oolfo")
		acquires(t, w, p, kind, 40, 30, 3, 2)
		releases(t, w, p, 4-kind, id(kind, 1, last), id(kind, 3, last-1))
	}
	answers(t, w, p, "lf")
	releases(t, w, p, closed, id(file, 2, last-1), id(lease, 4, last-1))
	ticks(t, w, p, 15)
	answers(t, w, p, "lofollo")
	for kind := file; kind <= lease; kind++ {
		l := p.spots[kind-1]
		if !l[0].there || l[0].gen != uint64(last) || l[1].gen != 1<<32 || !l[2].there || l[2].gen != uint64(last)-1 || l[3].there || l[3].gen != uint64(last) || !l[4].there || l[5].there {
			t.Fatal("kind", kind, l[:6])
		}
	}
	return w, p
}

// names returns resources, possible ones and others, that may be taken for those of a world.
func names(p *plan) []api.Outer {
	list := []api.Outer{{}}
	for k := range p.spots {
		for _, i := range []int{0, 1, 2, 3, 4, 5, 31, 62, 63} {
			gen := uint32(p.spots[k][i].gen)
			for _, g := range []uint32{0, 1, gen - 1, gen, gen + 1, last} {
				list = append(list, id(k+1, i, g))
			}
		}
		for _, i := range noIds {
			list = append(list, id(k+1, i, 0), id(k+1, i, 1), id(k+1, i, last))
		}
	}
	for _, kind := range noKinds {
		list = append(list, id(kind, 0, 0), id(kind, 0, 1), id(kind, 0, last), id(kind, 64, 1))
		list = append(list, id(kind, 0, uint32(p.spots[0][0].gen)))
	}
	return list
}

// seen asks what there is, and what was tried.
func seen(t *testing.T, w *World, p *plan) {
	t.Helper()
	if n := w.Now(); n != p.now {
		t.Errorf("Now: %d, want %d", n, p.now)
	}
	all := p.all()
	if l := w.All(); !slices.Equal(l, all) {
		t.Errorf("All: %v, want %v", l, all)
	}
	for _, o := range p.all(lease) {
		if at, e := w.Until(o); at != p.spots[2][o.Id].until || e != api.OK {
			t.Errorf("Until(%v) = %d, %d, want %d", o, at, e, p.spots[2][o.Id].until)
		}
	}
	if l := w.Ledger(); l == nil || l.Len() != len(p.book) || !slices.Equal(l.All(), p.book) {
		t.Errorf("Ledger: %v, want %v", l, p.book)
	}
}

// is asks all questions about a world, and makes the calls that it has to refuse.
func is(t *testing.T, w *World, p *plan) {
	t.Helper()
	seen(t, w, p)
	for _, o := range p.all() {
		if !w.Has(o) {
			t.Errorf("Has(%v) is false", o)
		}
	}
	for _, o := range names(p) {
		if has := w.Has(o); has != (p.check(o) == api.OK) {
			t.Errorf("Has(%v) = %t", o, has)
		}
		want, wantE := int64(0), p.ofLease(o)
		if wantE == api.OK {
			want = p.spots[2][o.Id].until
		}
		if at, e := w.Until(o); at != want || e != wantE {
			t.Errorf("Until(%v) = %d, %d, want %d, %d", o, at, e, want, wantE)
		}
		for _, n := range []int64{-1, 0, 1, longest, longest + 1} {
			if p.renewable(o, n) != api.OK {
				renews(t, w, p, o, n)
			}
		}
		for why := range 5 {
			if p.releasable(o, why) != api.OK {
				releases(t, w, p, why, o)
			}
		}
	}
	for kind := -1; kind <= 5; kind++ {
		for _, arg := range []int{-1, 0, 1, 65_535, 65_536, 65_537, 1 << 20, 1<<20 + 1} {
			if _, e := p.acquirable(kind, arg); e != api.OK {
				acquires(t, w, p, kind, arg)
			}
		}
	}
	for _, n := range []int64{-1, 0, 1, longest, longest + 1} {
		if p.tickable(n) != api.OK {
			ticks(t, w, p, n)
		}
	}
	answers(t, w, p, "z")
	seen(t, w, p)
}

// drained uses up all answers that are to come, one after the other.
func drained(t *testing.T, w *World, p *plan) {
	t.Helper()
	for p.coming != "" {
		left := len(p.coming)
		for kind := file; kind <= lease && p.coming != ""; kind++ {
			acquires(t, w, p, kind, 7)
		}
		for _, o := range p.all() {
			if len(p.coming) == left {
				releases(t, w, p, closed, o)
			}
		}
		if len(p.coming) == left {
			return // nothing is there, and nothing can be
		}
	}
}

// goesOn has a copy of a world go on: until its answers are used up, until nothing more can be acquired, and until nothing is there. What does not show in a world shows then.
func goesOn(t *testing.T, w *World, p *plan) {
	t.Helper()
	c, q := w.Copy(), p.clone()
	drained(t, c, q)
	for range 17 {
		acquires(t, c, q, buffer, 65_536)
	}
	for i := range 66 {
		acquires(t, c, q, buffer, 300)
		acquires(t, c, q, file, i)
		acquires(t, c, q, lease, 1+i)
	}
	for _, o := range q.all(lease) {
		renews(t, c, q, o, 9)
	}
	ticks(t, c, q, 3)
	seen(t, c, q)
	for _, o := range slices.Backward(q.all()) {
		releases(t, c, q, gone, o, o)
	}
	for kind := file; kind <= lease; kind++ {
		acquires(t, c, q, kind, 1)
	}
	seen(t, c, q)
	seen(t, w, p)
}

// has asks all questions about a world, and has a copy of it go on.
func has(t *testing.T, w *World, p *plan) {
	t.Helper()
	is(t, w, p)
	goesOn(t, w, p)
}

// turns makes calls, each with a number by a rule that repeats only after many of them.
func turns(count int, call func(n int)) {
	n := uint64(1)
	for range count {
		n = n*6364136223846793005 + 1442695040888963407
		call(int(n >> 33))
	}
}

// changes are calls that change a world of mixed, each in another way.
func changes(t *testing.T) map[string]func(w *World, p *plan) {
	list := map[string]func(w *World, p *plan){
		"Tick":    func(w *World, p *plan) { ticks(t, w, p, 1) },
		"Answer":  func(w *World, p *plan) { answers(t, w, p, "f") },
		"later":   func(w *World, p *plan) { acquires(t, w, p, file, 1) },
		"drained": func(w *World, p *plan) { drained(t, w, p) },
		"Renew":   func(w *World, p *plan) { renews(t, w, p, id(lease, 0, last), 700) },
		"the same file again": func(w *World, p *plan) {
			drained(t, w, p)
			releases(t, w, p, closed, id(file, 2, last-1))
			acquires(t, w, p, file, 5)
		},
		"all of it": func(w *World, p *plan) {
			for i := range 9 {
				for kind := file; kind <= lease; kind++ {
					acquires(t, w, p, kind, 3+i)
				}
				ticks(t, w, p, 1)
				releases(t, w, p, expired, p.all()...)
				answers(t, w, p, "lfo")
			}
		},
	}
	for kind, name := range map[int]string{file: "file", buffer: "buffer", lease: "lease"} {
		list["Acquire a "+name] = func(w *World, p *plan) {
			acquires(t, w, p, file, 1)
			acquires(t, w, p, kind, 50)
		}
		list["Release a "+name] = func(w *World, p *plan) {
			releases(t, w, p, gone, id(kind, 0, last), id(kind, 4, last-1))
		}
	}
	return list
}

// P12.1

func TestNew(t *testing.T) {
	for _, first := range firsts {
		w, p := made(t, first)
		if w.Now() != 0 || len(w.All()) != 0 || w.Ledger() == nil || w.Ledger().Len() != 0 {
			t.Error("New", first, w.Now(), w.All(), w.Ledger())
		}
		has(t, w, p)
	}
}

// The numbers of all kinds have the first generation.
func TestFirstGenerations(t *testing.T) {
	for _, first := range firsts {
		w, _ := made(t, first)
		for i := range 64 {
			for kind := file; kind <= lease; kind++ {
				if o, e := w.Acquire(kind, 9); o != id(kind, i, first) || e != api.OK {
					t.Errorf("New(%d), Acquire(%d, 9) = %v, %d", first, kind, o, e)
				}
			}
		}
	}
}

func TestNewRefuses(t *testing.T) {
	if w, e := New(0); w != nil || e != api.ErrArg {
		t.Error("New(0)", w, e)
	}
}

func TestNewWorldsAreIndependent(t *testing.T) {
	a, p := made(t, 5)
	b, q := made(t, 5)
	for kind := file; kind <= lease; kind++ {
		acquires(t, a, p, kind, 1, 2)
		releases(t, a, p, kind, id(kind, 0, 5))
	}
	ticks(t, a, p, 3)
	answers(t, a, p, "lf")
	has(t, a, p)
	has(t, b, q)
	acquires(t, b, q, lease, 40)
	releases(t, b, q, closed, id(lease, 0, 5))
	has(t, a, p)
	has(t, b, q)
}

func TestCopy(t *testing.T) {
	for _, first := range firsts {
		w, p := made(t, first)
		has(t, w.Copy(), p)
		w, p = full(t, first)
		c := w.Copy()
		if c == nil || c == w {
			t.Fatal("the copy is", c)
		}
		has(t, c, p)
		has(t, c.Copy(), p)
		has(t, w, p)
	}
	w, p := mixed(t)
	has(t, w.Copy(), p)
	has(t, w, p)
}

func TestCopyIsIndependent(t *testing.T) {
	for one, change := range changes(t) {
		for two, other := range changes(t) {
			for _, changesCopy := range []bool{false, true} {
				changed, p := mixed(t)
				left, q := changed.Copy(), p.clone()
				if changesCopy {
					changed, left = left, changed
				}
				change(changed, p)
				if p.now == q.now && p.spots == q.spots && p.coming == q.coming {
					t.Error(one, "changes nothing")
				}
				seen(t, changed, p)
				seen(t, left, q)
				// The other one goes on, behind the first one's back.
				other(left, q)
				goesOn(t, changed, p)
				goesOn(t, left, q)
				if t.Failed() {
					t.Fatal(one, two, changesCopy)
				}
			}
		}
	}
}

// P12.2

// At each end of the good numbers, and between them, the resource is acquired; beyond them the number is refused.
func TestNumbers(t *testing.T) {
	for kind, end := range ends {
		numbers := []int{end[0], end[0] + 1, 5, 255, 256, 32_768, end[1] - 1, end[1]}
		for _, first := range firsts {
			w, p := made(t, first)
			for i, arg := range numbers {
				if o, e := w.Acquire(kind, arg); o != id(kind, i, first) || e != api.OK {
					t.Errorf("Acquire(%d, %d) = %v, %d", kind, arg, o, e)
				}
				p.acquire(kind, arg)
				seen(t, w, p)
			}
		}
		for _, arg := range []int{math.MinInt, -1<<32 + 5, -end[1], -2, -1, end[0] - 1, end[1] + 1, end[1] + 2, 1 << 21, 1 << 32, 1<<32 + 5, 1 << 40, math.MaxInt} {
			w, p := mixed(t)
			if o, e := w.Acquire(kind, arg); o != (api.Outer{}) || e != api.ErrArg {
				t.Errorf("Acquire(%d, %d) = %v, %d", kind, arg, o, e)
			}
			has(t, w, p)
		}
	}
}

func TestKinds(t *testing.T) {
	w, p := mixed(t)
	for _, kind := range noKinds {
		for _, arg := range []int{-1, 0, 1, 5, 65_535, 65_536, 1 << 20} {
			if o, e := w.Acquire(kind, arg); o != (api.Outer{}) || e != api.ErrArg {
				t.Errorf("Acquire(%d, %d) = %v, %d", kind, arg, o, e)
			}
		}
	}
	has(t, w, p)
}

// Each kind has 64 numbers of its own, the lowest free one of which is acquired.
func TestAcquireAll(t *testing.T) {
	for kind := file; kind <= lease; kind++ {
		w, p := made(t, 3)
		for i := range 64 {
			if o, e := w.Acquire(kind, 100); o != id(kind, i, 3) || e != api.OK {
				t.Errorf("Acquire(%d, 100) = %v, %d, want %d", kind, o, e, i)
			}
			p.acquire(kind, 100)
		}
		if o, e := w.Acquire(kind, 100); o != (api.Outer{}) || e != api.ErrFull {
			t.Errorf("Acquire(%d, 100) = %v, %d", kind, o, e)
		}
		has(t, w, p)
		releases(t, w, p, closed, id(kind, 40, 3), id(kind, 7, 3))
		for _, i := range []int{7, 40} {
			if o, e := w.Acquire(kind, 100); o != id(kind, i, 4) || e != api.OK {
				t.Errorf("Acquire(%d, 100) = %v, %d, want %d", kind, o, e, i)
			}
		}
	}
}

// The buffers have 1,048,576 bytes, and those that were given back are there again.
func TestBytes(t *testing.T) {
	w, p := made(t, 1)
	for range 15 {
		acquires(t, w, p, buffer, 65_536)
	}
	acquires(t, w, p, buffer, 65_535)
	for arg, want := range map[int]api.Errno{2: api.ErrFull, 65_536: api.ErrFull, 65_537: api.ErrArg, 0: api.ErrArg} {
		if o, e := w.Acquire(buffer, arg); o != (api.Outer{}) || e != want {
			t.Errorf("Acquire of %d bytes = %v, %d, want %d", arg, o, e, want)
		}
	}
	has(t, w, p)
	if o, e := w.Acquire(buffer, 1); o != id(buffer, 16, 1) || e != api.OK {
		t.Error("Acquire of the last byte", o, e)
	}
	p.acquire(buffer, 1)
	has(t, w, p)
	releases(t, w, p, closed, id(buffer, 4, 1))
	acquires(t, w, p, buffer, 65_535, 2, 1, 1)
	has(t, w, p)
	// The bytes are no matter of the other kinds.
	acquires(t, w, p, file, 65_535)
	acquires(t, w, p, lease, 1<<20)
	if len(p.all()) != 20 {
		t.Error(p.all())
	}
}

// A lease is granted from now on, and not beyond the last time.
func TestLeasesEnd(t *testing.T) {
	for _, before := range []int64{0, 1, 2, 100, longest - 1} {
		w, p := late(t, 1, before)
		answers(t, w, p, "l")
		for _, arg := range []int64{1, 2, 3, 99, 100, 101, longest - 1, longest} {
			if arg > before {
				if o, e := w.Acquire(lease, int(arg)); o != (api.Outer{}) || e != api.ErrOver {
					t.Errorf("Acquire(lease, %d), %d before the end = %v, %d", arg, before, o, e)
				}
			}
		}
		if w.Acquire(lease, 0); p.now != latest-before {
			t.Error(p.now)
		}
		has(t, w, p)
		acquires(t, w, p, file, 1) // later
		for _, arg := range []int64{1, 2, 100, longest - 1} {
			if arg <= before {
				acquires(t, w, p, lease, int(arg))
			}
		}
		has(t, w, p)
	}
}

// What is wrong with the number comes first. For a lease beyond the last time the error is the one that Grant names first, also if no number is free.
func TestOrderOfErrorsOfAcquire(t *testing.T) {
	w, p := late(t, 1, 10)
	for range 64 {
		acquires(t, w, p, file, 1)
		acquires(t, w, p, buffer, 1)
		acquires(t, w, p, lease, 1)
	}
	answers(t, w, p, "flo")
	for _, x := range []struct {
		kind, arg int
		want      api.Errno
	}{{file, 65_536, api.ErrArg}, {file, 65_535, api.ErrFull}, {buffer, 0, api.ErrArg}, {buffer, 65_536, api.ErrFull}, {lease, 0, api.ErrArg}, {lease, 1<<20 + 1, api.ErrArg}, {lease, 11, api.ErrOver}, {lease, 10, api.ErrFull}, {0, 1, api.ErrArg}, {4, 1, api.ErrArg}} {
		if o, e := w.Acquire(x.kind, x.arg); o != (api.Outer{}) || e != x.want {
			t.Errorf("Acquire(%d, %d) = %v, %d, want %d", x.kind, x.arg, o, e, x.want)
		}
	}
	has(t, w, p)
}

// Each answer to Acquire, for each kind: only with ok a number is taken.
func TestAnswersToAcquire(t *testing.T) {
	for kind := file; kind <= lease; kind++ {
		for text, want := range map[string]api.Errno{"": api.OK, "o": api.OK, "l": api.ErrLater, "f": api.ErrFail} {
			w, p := made(t, 8)
			answers(t, w, p, text)
			o, e := w.Acquire(kind, 100)
			if wantO := id(kind, 0, 8); e != want || e == api.OK && o != wantO || e != api.OK && o != (api.Outer{}) {
				t.Errorf("Acquire(%d, 100) with %q = %v, %d", kind, text, o, e)
			}
			p.acquire(kind, 100)
			has(t, w, p)
			// The same number, in the same generation, is the next one.
			acquires(t, w, p, kind, 100)
			has(t, w, p)
		}
	}
}

// A refusal in between leaves the numbers, the generations and the bytes as they are.
func TestRefusedByTheWorld(t *testing.T) {
	for kind := file; kind <= lease; kind++ {
		w, p := made(t, last)
		answers(t, w, p, strings.Repeat("lf", 900))
		for range 1800 {
			acquires(t, w, p, kind, 65_000)
		}
		has(t, w, p)
		for range 16 {
			acquires(t, w, p, kind, 65_000)
		}
		has(t, w, p)
		if len(p.all()) != 16 {
			t.Error(p.all())
		}
	}
}

// P12.3

// Each answer, for each kind and each reason.
func TestRelease(t *testing.T) {
	for kind := file; kind <= lease; kind++ {
		for _, why := range whys {
			for text, want := range map[string]int{"": ansOK, "o": ansOK, "l": ansLater, "f": ansBad} {
				w, p := full(t, 5)
				answers(t, w, p, text)
				ticks(t, w, p, 3)
				o := id(kind, 20, 5)
				if a, e := w.Release(o, why); a != want || e != api.OK {
					t.Errorf("Release(%v, %d) with %q = %d, %d", o, why, text, a, e)
				}
				p.release(o, why)
				if l := w.Ledger().All(); !slices.Equal(l, []api.Attempt{{At: 103, Out: o, Why: why, Answer: want}}) {
					t.Error("Ledger", l)
				}
				if w.Has(o) != (want != ansOK) {
					t.Error("Has", o, text, w.Has(o))
				}
				has(t, w, p)
			}
		}
	}
}

// What was answered later or fail can be tried again.
func TestReleaseAgain(t *testing.T) {
	w, p := full(t, 1)
	for kind := file; kind <= lease; kind++ {
		answers(t, w, p, "llffllo")
		o := id(kind, 9, 1)
		for i := range 9 {
			releases(t, w, p, 1+i%3, o)
			seen(t, w, p)
		}
		if p.check(o) != api.ErrNone {
			t.Error(o, "is there")
		}
	}
	if len(p.book) != 21 {
		t.Error(p.book)
	}
	has(t, w, p)
}

func TestReleaseRefuses(t *testing.T) {
	w, p := mixed(t)
	for _, o := range names(p) {
		for _, why := range slices.Concat(whys, noWhys) {
			e := p.releasable(o, why)
			if e == api.OK {
				continue
			}
			possible := o.Kind >= file && o.Kind <= lease && o.Id >= 0 && o.Id <= 63 && o.Gen > 0
			if e != api.ErrArg && (e != api.ErrNone || !possible) {
				t.Fatal("the plan", o, why, e)
			}
			if a, f := w.Release(o, why); a != 0 || f != e {
				t.Errorf("Release(%v, %d) = %d, %d, want %d", o, why, a, f, e)
			}
		}
	}
	has(t, w, p)
}

// filledLedger returns a world at the time 20 whose ledger has so many attempts, and its plan.
func filledLedger(t *testing.T, attempts int) (*World, *plan) {
	t.Helper()
	w, p := mixed(t)
	drained(t, w, p)
	for kind := file; kind <= lease; kind++ {
		acquires(t, w, p, kind, 500)
	}
	for i := 0; len(p.book) < attempts; i++ {
		if p.coming == "" {
			answers(t, w, p, strings.Repeat("lf", min(1000, (attempts-len(p.book)+1)/2)))
		}
		all := p.all()
		releases(t, w, p, 1+i%3, all[i%len(all)])
	}
	return w, p
}

// A ledger without room refuses attempts, and the resources stay there; the answers that are to come are used up by others.
func TestFullLedger(t *testing.T) {
	w, p := filledLedger(t, most-1)
	drained(t, w, p)
	if len(p.book) > most-1 {
		t.Fatal(len(p.book))
	}
	there := p.all()
	answers(t, w, p, "flo")
	releases(t, w, p, closed, there[0])
	if len(p.book) != most || p.coming != "lo" {
		t.Fatal(len(p.book), p.coming)
	}
	for _, o := range there {
		for _, why := range whys {
			if a, e := w.Release(o, why); a != 0 || e != api.ErrFull {
				t.Errorf("Release(%v, %d) = %d, %d", o, why, a, e)
			}
		}
		// What is wrong with the arguments, and what is not there, comes first.
		for _, why := range noWhys {
			if a, e := w.Release(o, why); a != 0 || e != api.ErrArg {
				t.Errorf("Release(%v, %d) = %d, %d", o, why, a, e)
			}
		}
		if a, e := w.Release(id(o.Kind, o.Id, 1), closed); a != 0 || e != api.ErrNone {
			t.Errorf("Release(%v in generation 1) = %d, %d", o, a, e)
		}
	}
	is(t, w, p)
	c, q := w.Copy(), p.clone()
	ticks(t, w, p, 1)
	acquires(t, w, p, file, 1, 1, 1)
	if p.coming != "" {
		t.Error(p.coming)
	}
	releases(t, w, p, closed, there[0])
	is(t, w, p)
	is(t, c, q)
}

// P12.4

func TestLeases(t *testing.T) {
	for _, first := range firsts {
		for _, ahead := range spans {
			w, p := made(t, first)
			ticks(t, w, p, ahead)
			acquires(t, w, p, lease, 10, 1<<20, 1)
			o := id(lease, 0, first)
			if at, e := w.Until(o); at != ahead+10 || e != api.OK {
				t.Error("Until", at, e, "want", ahead+10)
			}
			// Later and earlier than before, from now on.
			for _, n := range spans {
				if e := w.Renew(o, n); e != api.OK {
					t.Error("Renew", n, e)
				}
				if at, e := w.Until(o); at != ahead+n || e != api.OK {
					t.Error("Until", at, e, "want", ahead+n)
				}
				p.renew(o, n)
				seen(t, w, p)
			}
			renews(t, w, p, o, 2)
			ticks(t, w, p, 1)
			renews(t, w, p, o, 3)
			has(t, w, p)
		}
	}
}

// From its time on a lease is over; it is there until it is given back.
func TestLeasesThatAreOver(t *testing.T) {
	w, p := made(t, 1)
	ticks(t, w, p, 7)
	acquires(t, w, p, lease, 10, 10, 11)
	o := id(lease, 0, 1)
	ticks(t, w, p, 9)
	if e := w.Copy().Renew(o, 1); e != api.OK {
		t.Error("Renew at 16", e)
	}
	for _, n := range []int64{1, 1, 1000, longest} {
		ticks(t, w, p, n)
		for _, renewed := range spans {
			if e := w.Renew(o, renewed); e != api.ErrState {
				t.Error("Renew at", p.now, e)
			}
		}
		for _, renewed := range noSpans {
			if e := w.Renew(o, renewed); e != api.ErrArg {
				t.Error("Renew at", p.now, renewed, e)
			}
		}
		if at, e := w.Until(o); at != 17 || e != api.OK || !w.Has(o) {
			t.Error("Until", at, e, w.Has(o))
		}
		has(t, w, p)
	}
	releases(t, w, p, expired, o)
	has(t, w, p)
}

// At the last time every lease is over; shortly before it, one cannot be renewed beyond it.
func TestRenewOver(t *testing.T) {
	w, p := late(t, 1, 100)
	acquires(t, w, p, lease, 50, 100)
	a, b := id(lease, 0, 1), id(lease, 1, 1)
	for n, want := range map[int64]api.Errno{100: api.OK, 101: api.ErrOver, longest: api.ErrOver, longest + 1: api.ErrArg} {
		if e := w.Copy().Renew(a, n); e != want {
			t.Error("Renew", n, e, want)
		}
	}
	renews(t, w, p, a, 101)
	renews(t, w, p, a, 60)
	has(t, w, p)
	ticks(t, w, p, 60)
	// The first one is over, which comes before ErrOver.
	for _, x := range []struct {
		o    api.Outer
		want api.Errno
	}{{a, api.ErrState}, {b, api.ErrOver}} {
		if e := w.Renew(x.o, 41); e != x.want {
			t.Error("Renew", x.o, e, x.want)
		}
	}
	has(t, w, p)
	ticks(t, w, p, 40)
	if e := w.Renew(b, 1); e != api.ErrState {
		t.Error("Renew at the last time", e)
	}
	has(t, w, p)
}

func TestRenewAndUntilRefuse(t *testing.T) {
	w, p := mixed(t)
	for _, o := range names(p) {
		for _, n := range slices.Concat(spans, noSpans) {
			if p.renewable(o, n) != api.OK {
				renews(t, w, p, o, n)
			}
		}
	}
	for _, x := range []struct {
		o           api.Outer
		until, with api.Errno // with 0 ticks
	}{
		{id(lease, 64, 1), api.ErrArg, api.ErrArg},
		{id(lease, 0, 0), api.ErrArg, api.ErrArg},
		{id(4, 0, 1), api.ErrArg, api.ErrArg},
		// It is no lease, whether it is there or not.
		{id(file, 0, last), api.ErrState, api.ErrArg},
		{id(file, 1, 1), api.ErrState, api.ErrArg},
		{id(buffer, 0, last), api.ErrState, api.ErrArg},
		{id(buffer, 63, 1), api.ErrState, api.ErrArg},
		{id(lease, 63, 1), api.ErrNone, api.ErrArg},
		{id(lease, 0, last-1), api.ErrNone, api.ErrArg},
		{id(lease, 1, last), api.ErrNone, api.ErrArg},
	} {
		at, e := w.Until(x.o)
		f, g := w.Renew(x.o, 5), w.Renew(x.o, 0)
		if at != 0 || e != x.until || f != x.until || g != x.with {
			t.Error(x.o, "Until, Renew:", at, e, f, g)
		}
	}
	has(t, w, p)
}

// P12.5

func TestTick(t *testing.T) {
	w, p := made(t, 1)
	now := int64(0)
	for _, n := range append(spans, spans...) {
		if e := w.Tick(n); e != api.OK {
			t.Error("Tick", n, e)
		}
		now += n
		if w.Now() != now {
			t.Error("Now", w.Now(), "want", now)
		}
	}
	p.now = now
	for _, n := range noSpans {
		if e := w.Tick(n); e != api.ErrArg || w.Now() != now {
			t.Error("Tick", n, e, w.Now())
		}
	}
	has(t, w, p)
}

func TestTickToTheEnd(t *testing.T) {
	for _, before := range []int64{0, 1, 2, longest - 1} {
		w, p := late(t, 1, before)
		for _, n := range spans {
			if want := n > before; want != (w.Copy().Tick(n) == api.ErrOver) {
				t.Error("Tick", n, "with", before, "left")
			}
		}
		for _, n := range noSpans {
			ticks(t, w, p, n)
		}
		ticks(t, w, p, before+1)
		if w.Now() != latest-before {
			t.Error("Now", w.Now())
		}
		if before > 0 {
			ticks(t, w, p, before)
		}
		if w.Now() != latest || w.Tick(1) != api.ErrOver || w.Tick(longest) != api.ErrOver || w.Tick(0) != api.ErrArg {
			t.Error("at the end", w.Now())
		}
		// All but time goes on.
		acquires(t, w, p, file, 1)
		answers(t, w, p, "l")
		releases(t, w, p, closed, id(file, 0, 1), id(file, 0, 1))
		has(t, w, p)
	}
}

func TestAnswer(t *testing.T) {
	for _, x := range []struct {
		text string
		want api.Errno
	}{
		{"", api.OK}, {"o", api.OK}, {"l", api.OK}, {"f", api.OK}, {"olflfo", api.OK}, {strings.Repeat("l", 1993), api.OK},
		{"z", api.ErrForm}, {"oO", api.ErrForm}, {"o l", api.ErrForm}, {"1", api.ErrForm}, {"\x00", api.ErrForm}, {strings.Repeat("l", 1993) + "z", api.ErrForm},
		{strings.Repeat("l", 1994), api.ErrMany}, {strings.Repeat("o", 2000), api.ErrMany}, {strings.Repeat("f", 2001), api.ErrMany}, {strings.Repeat("z", 2001), api.ErrMany},
	} {
		w, p := mixed(t)
		if len(p.coming) != 7 {
			t.Fatal(p.coming)
		}
		if e := w.Answer(x.text); e != x.want {
			t.Errorf("Answer(%.10q) = %d, want %d", x.text, e, x.want)
		}
		p.answer(x.text)
		has(t, w, p)
	}
}

// What was used up makes room.
func TestAnswerAgain(t *testing.T) {
	w, p := made(t, 1)
	answers(t, w, p, strings.Repeat("l", 2000))
	acquires(t, w, p, file, 1, 1, 65_536, -1)
	releases(t, w, p, closed, id(file, 0, 1))
	answers(t, w, p, "fff")
	answers(t, w, p, "ff")
	answers(t, w, p, "f")
	if len(p.coming) != 2000 {
		t.Error(len(p.coming))
	}
	has(t, w, p)
}

// P12.6

// Kinds come in their order, and the numbers of each kind in theirs, whatever the order of the calls is.
func TestAllAndHas(t *testing.T) {
	w, p := made(t, 1)
	for _, kind := range []int{lease, file, buffer, lease, buffer, file} {
		acquires(t, w, p, kind, 5, 6, 7)
	}
	releases(t, w, p, closed, id(file, 0, 1), id(lease, 3, 1), id(buffer, 2, 1), id(file, 4, 1))
	acquires(t, w, p, file, 5)
	want := []api.Outer{
		id(file, 0, 2), id(file, 1, 1), id(file, 2, 1), id(file, 3, 1), id(file, 5, 1),
		id(buffer, 0, 1), id(buffer, 1, 1), id(buffer, 3, 1), id(buffer, 4, 1), id(buffer, 5, 1),
		id(lease, 0, 1), id(lease, 1, 1), id(lease, 2, 1), id(lease, 4, 1), id(lease, 5, 1),
	}
	if l := w.All(); !slices.Equal(l, want) {
		t.Error("All", l)
	}
	for kind := -1; kind <= 5; kind++ {
		for n := -1; n <= 65; n++ {
			for gen := range uint32(4) {
				if o := id(kind, n, gen); w.Has(o) != slices.Contains(want, o) {
					t.Error("Has", o, w.Has(o))
				}
			}
		}
	}
	has(t, w, p)
}

// What was asked for is the caller's own.
func TestResultsAreNewMemory(t *testing.T) {
	w, p := mixed(t)
	all := w.All()
	for i := range all {
		all[i] = api.Outer{}
	}
	_ = append(all[:0], make([]api.Outer, cap(all))...)
	seen(t, w, p)
	book := w.Ledger()
	if e := book.Add(api.Attempt{At: latest, Out: id(file, 0, last), Why: closed, Answer: ansOK}); e != api.OK {
		t.Error("Add", e)
	}
	has(t, w, p)
	releases(t, w, p, closed, id(file, 0, last))
	if book.Len() != len(p.book) || w.Ledger() == w.Ledger() {
		t.Error("Ledger", book.Len())
	}
	has(t, w, p)
}

// P12.7

// What was released with ok is not there again; its number goes on with other generations, and is used up behind the last one.
func TestNeverAgain(t *testing.T) {
	for kind := file; kind <= lease; kind++ {
		w, p := made(t, last-5)
		var over []api.Outer
		for gen := last - 5; gen >= last-5; gen++ { // up to the last one, behind which comes 0
			o := id(kind, 0, gen)
			if a, e := w.Acquire(kind, 5); a != o || e != api.OK {
				t.Fatal("Acquire", a, e, "want", o)
			}
			p.acquire(kind, 5)
			answers(t, w, p, "lf")
			releases(t, w, p, closed, o, o, o)
			over = append(over, o)
			for _, o := range over {
				a, e := w.Release(o, closed)
				if at, f := w.Until(o); w.Has(o) || a != 0 || e != api.ErrNone || at != 0 || f == api.OK {
					t.Fatal("Has, Release, Until", o, w.Has(o), a, e, at, f)
				}
			}
			has(t, w, p)
		}
		if o, e := w.Acquire(kind, 5); o != id(kind, 1, last-5) || e != api.OK || len(over) != 6 {
			t.Error("Acquire", o, e, len(over))
		}
	}
}

// once checks that a ledger has nothing behind an ok for a resource, and that what had an ok is not there.
func once(t *testing.T, w *World) {
	t.Helper()
	ended := map[api.Outer]bool{}
	at := int64(0)
	for i, a := range w.Ledger().All() {
		if ended[a.Out] || a.At < at || a.At > w.Now() {
			t.Fatal("attempt", i, a, "at", w.Now())
		}
		ended[a.Out] = a.Answer == ansOK
		at = a.At
	}
	for _, o := range w.All() {
		if ended[o] {
			t.Fatal(o, "is there again")
		}
	}
}

// TestLongSequences makes many calls by a rule, right ones and wrong ones; Acquire returns nothing twice, and the ledger only grows.
func TestLongSequences(t *testing.T) {
	for _, first := range []uint32{1, last - 20} {
		for _, letters := range []string{"o", "ol", "olf", "oooooolf"} {
			w, p := made(t, first)
			given := map[api.Outer]bool{}
			var before []api.Attempt
			turns(2000, func(n int) {
				kind, i := 1+n/8%3, n/32
				all := p.all(kind)
				switch o := id(kind, i%64, first+uint32(i)%4); n % 8 {
				case 0, 1, 2:
					wanted, e := p.clone().acquire(kind, 1+i%20)
					acquires(t, w, p, kind, 1+i%20)
					if given[wanted] {
						t.Fatal(wanted, "is given twice")
					}
					if e == api.OK {
						given[wanted] = true
					}
				case 3:
					if len(all) > 0 {
						o = all[i%len(all)]
					}
					releases(t, w, p, i%5, o)
				case 4:
					for _, o := range all[:min(len(all), i%3)] {
						releases(t, w, p, 1+i%3, o)
					}
				case 5:
					if len(all) > 0 {
						o = all[i%len(all)]
					}
					renews(t, w, p, o, int64(i%30))
				case 6:
					ticks(t, w, p, int64(i%4))
				default:
					answers(t, w, p, letters[i%len(letters):][:1])
				}
				if t.Failed() {
					t.FailNow()
				}
				if n%11 != 0 {
					return
				}
				seen(t, w, p)
				book := w.Ledger().All()
				if len(book) < len(before) || !slices.Equal(book[:len(before)], before) {
					t.Fatal("the ledger has changed")
				}
				if before = book; n%97 == 0 {
					is(t, w, p)
				}
			})
			once(t, w)
			has(t, w, p)
			if len(given) < 200 || len(before) < 200 {
				t.Error("little happened:", first, letters, len(given), len(before))
			}
		}
	}
}

// P12.8

// Each answer is used up by one call, in order, by whichever of the two.
func TestEachAnswerIsUsedOnce(t *testing.T) {
	w, p := full(t, 1)
	releases(t, w, p, closed, id(file, 3, 1), id(file, 5, 1), id(buffer, 4, 1), id(buffer, 6, 1))
	text := "lflollffolof"
	answers(t, w, p, text[:5])
	answers(t, w, p, text[5:])
	for i, letter := range text {
		is(t, w, p) // with many calls that are refused
		want := map[rune]int{'o': ansOK, 'l': ansLater, 'f': ansBad}[letter]
		o := id(lease, i, 1)
		if i%2 == 0 {
			if a, e := w.Release(o, closed); a != want || e != api.OK {
				t.Error("Release", i, a, e, "want", want)
			}
			p.release(o, closed)
			continue
		}
		kind := 1 + i/2%2
		wantE := map[rune]api.Errno{'o': api.OK, 'l': api.ErrLater, 'f': api.ErrFail}[letter]
		if _, e := w.Acquire(kind, 1); e != wantE {
			t.Error("Acquire", i, e, "want", wantE)
		}
		p.acquire(kind, 1)
	}
	if p.coming != "" {
		t.Error(p.coming)
	}
	has(t, w, p)
}

func TestRefusalsAndQuestionsChangeNothing(t *testing.T) {
	w, p := mixed(t)
	lateW, lateP := late(t, last, 3)
	acquires(t, lateW, lateP, lease, 1, 2, 3)
	answers(t, lateW, lateP, "lf")
	fullW, fullP := full(t, last)
	for _, x := range []struct {
		w *World
		p *plan
	}{{w, p}, {lateW, lateP}, {fullW, fullP}} {
		for range 3 {
			is(t, x.w, x.p)
			x.w.Copy().Release(id(file, 0, last), closed)
			x.w.Copy().Tick(1)
			x.w.Answer(strings.Repeat("l", 2001))
		}
		has(t, x.w, x.p)
	}
}

// TestShortSequences makes all sequences of a few changes, right ones and wrong ones, on a world close to the last generation.
func TestShortSequences(t *testing.T) {
	var next func(w *World, p *plan, left int)
	next = func(w *World, p *plan, left int) {
		seen(t, w, p)
		once(t, w)
		if left == 0 || t.Failed() {
			return
		}
		branch := func(change func(c *World, q *plan)) {
			c, q := w.Copy(), p.clone()
			change(c, q)
			next(c, q, left-1)
		}
		for kind := file; kind <= lease; kind++ {
			branch(func(c *World, q *plan) { acquires(t, c, q, kind, 2) })
			branch(func(c *World, q *plan) { releases(t, c, q, kind, id(kind, 0, last-1)) })
		}
		branch(func(c *World, q *plan) { releases(t, c, q, closed, id(lease, 0, last), id(lease, 1, last-1)) })
		branch(func(c *World, q *plan) { renews(t, c, q, id(lease, 0, last-1), 3) })
		branch(func(c *World, q *plan) { ticks(t, c, q, 1) })
		branch(func(c *World, q *plan) { answers(t, c, q, "l") })
		branch(func(c *World, q *plan) { answers(t, c, q, "fo") })
		seen(t, w, p)
	}
	w, p := made(t, last-1)
	next(w, p, 4)
}

// P12.9

func TestTimesOfAttempts(t *testing.T) {
	w, p := late(t, 1, 5000)
	var at []int64
	answers(t, w, p, strings.Repeat("llfo", 50))
	for i := range 300 {
		if i%3 == 0 {
			ticks(t, w, p, int64(1+i%17))
		}
		before := w.Ledger()
		acquires(t, w, p, 1+i%3, 9)
		for _, o := range p.all() {
			releases(t, w, p, expired, o)
			at = append(at, w.Now())
		}
		l := w.Ledger().All()
		if len(l) != len(at) || !slices.Equal(l[:before.Len()], before.All()) {
			t.Fatal("Ledger", len(l), len(at))
		}
	}
	for i, a := range w.Ledger().All() {
		if a.At != at[i] {
			t.Error("attempt", i, a, "want", at[i])
		}
	}
	once(t, w)
	has(t, w, p)
}

// R2

func TestWorldsThatAreNotValid(t *testing.T) {
	p := planned(1)
	for name, w := range map[string]*World{"nil": nil, "zero": {}, "new": new(World)} {
		is := func(call string, e api.Errno, zero bool) {
			t.Helper()
			if e != api.ErrNil || !zero {
				t.Error(name, call, e, zero)
			}
		}
		for range 2 {
			// ErrNil comes before what is wrong with the arguments.
			for _, kind := range append([]int{file, buffer, lease}, noKinds...) {
				for _, arg := range []int{math.MinInt, -1, 0, 1, 65_537, 1<<20 + 1, math.MaxInt} {
					o, e := w.Acquire(kind, arg)
					is("Acquire", e, o == api.Outer{})
				}
			}
			for _, o := range names(p) {
				for why := range 5 {
					a, e := w.Release(o, why)
					is("Release", e, a == 0)
				}
				for _, n := range []int64{-1, 0, 1, longest + 1} {
					is("Renew", w.Renew(o, n), true)
				}
				at, e := w.Until(o)
				is("Until", e, at == 0 && !w.Has(o))
			}
			for _, n := range slices.Concat(spans, noSpans) {
				is("Tick", w.Tick(n), true)
			}
			for _, text := range []string{"", "o", "z", strings.Repeat("l", 2001)} {
				is("Answer", w.Answer(text), true)
			}
			if w.Now() != 0 || w.Ledger() != nil || len(w.All()) != 0 || w.Copy() != nil {
				t.Error(name, w.Now(), w.Ledger(), w.All(), w.Copy())
			}
		}
	}
}

// R8

func TestEqualCallsReturnEqualResults(t *testing.T) {
	for _, change := range changes(t) {
		a, p := mixed(t)
		change(a, p)
		for range 3 {
			b, q := mixed(t)
			c, r := b.Copy(), q.clone()
			change(b, q)
			change(c, r)
			if l := a.All(); !slices.Equal(l, b.All()) || !slices.Equal(l, c.All()) {
				t.Error("All:", l, b.All(), c.All())
			}
			if l := a.Ledger().All(); !slices.Equal(l, b.Ledger().All()) || !slices.Equal(l, c.Ledger().All()) {
				t.Error("Ledger:", l)
			}
			has(t, b, p)
			has(t, c, p)
		}
	}
}

// The examples of the chapter.

func TestExamples(t *testing.T) {
	w, _ := made(t, 1)
	is := func(call string, e, want api.Errno) {
		t.Helper()
		if e != want {
			t.Error(call, e, "want", want)
		}
	}
	acquired := func(kind, arg int, want api.Outer, wantE api.Errno) {
		t.Helper()
		if o, e := w.Acquire(kind, arg); o != want || e != wantE {
			t.Error("Acquire", kind, arg, o, e)
		}
	}
	released := func(o api.Outer, why, want int, wantE api.Errno) {
		t.Helper()
		if a, e := w.Release(o, why); a != want || e != wantE {
			t.Error("Release", o, why, a, e)
		}
	}
	is("Answer", w.Answer("loofo"), api.OK)
	acquired(api.KindFile, 5, api.Outer{}, api.ErrLater)
	acquired(api.KindFile, 5, id(file, 0, 1), api.OK)
	acquired(api.KindBuffer, 100, id(buffer, 0, 1), api.OK)
	is("Tick", w.Tick(7), api.OK)
	released(id(file, 0, 1), api.WhyClose, api.AnsFail, api.OK)
	released(id(file, 0, 1), api.WhyClose, api.AnsOK, api.OK)
	released(id(file, 0, 1), api.WhyClose, 0, api.ErrNone)
	acquired(api.KindFile, 5, id(file, 0, 2), api.OK)
	acquired(api.KindLease, 10, id(lease, 0, 1), api.OK)
	if at, e := w.Until(id(lease, 0, 1)); at != 17 || e != api.OK {
		t.Error("Until", at, e)
	}
	is("Tick", w.Tick(10), api.OK)
	is("Renew", w.Renew(id(lease, 0, 1), 5), api.ErrState)
	acquired(4, 1, api.Outer{}, api.ErrArg)
	acquired(api.KindBuffer, 0, api.Outer{}, api.ErrArg)
	released(id(file, 0, 2), 0, 0, api.ErrArg)
	if names := slices.Sorted(maps.Keys(ends)); !slices.Equal(names, []int{api.KindFile, api.KindBuffer, api.KindLease}) {
		t.Error(names)
	}
}
