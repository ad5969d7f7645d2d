package ledger

import (
	"fmt"
	"math"
	"math/big"
	"regexp"
	"slices"
	"strings"
	"testing"

	"estray/api"
)

const last = api.MaxGen

var (
	f31 = out(1, 3, 1)
	// outs are resources that differ from the first one in a single part, and others; a kind, a number, or a generation is that of several.
	outs = []api.Outer{f31, out(2, 3, 1), out(3, 3, 1), out(1, 2, 1), out(1, 4, 1), out(1, 3, 2), out(1, 3, last), out(3, 0, 2), out(1, 0, 1), out(2, 63, last), out(3, 63, 1)}
	// noOuts are none; each part is the only wrong one of some.
	noOuts = []api.Outer{{}, out(0, 3, 1), out(4, 3, 1), out(-1, 3, 1), out(257, 3, 1), out(1<<32+1, 3, 1), out(1, -1, 1), out(1, 64, 1), out(1, 259, 1), out(1, 1<<32+3, 1), out(1, 3, 0), out(math.MinInt, math.MaxInt, 0)}
	// someTimes are the first times and the last ones, and some between.
	someTimes = []int64{0, 1, 2, 9, 10, 99, 100, 1<<31 - 1, 1 << 31, 1 << 32, 999_999_999_999, 1_000_000_000_000, 1<<40 - 1, 1 << 40}
	// noTimes are none; some would be times in fewer bits.
	noTimes = []int64{math.MinInt64, math.MinInt64 + 1, -1 << 40, -1 << 32, -2, -1, 1<<40 + 1, 1<<40 + 2, 1 << 41, 1<<62 + 5, math.MaxInt64 - 1, math.MaxInt64}
	// noNumbers are those of no reason and of no answer; some would be one in fewer bits.
	noNumbers = []int{math.MinInt, math.MinInt + 1, -1 << 32, -257, -255, -3, -2, -1, 0, 4, 5, 6, 255, 256, 257, 258, 259, 1 << 32, 1<<32 + 1, 1<<32 + 3, math.MaxInt - 2, math.MaxInt}
)

// out returns a resource, attempt one to release it.
func out(kind, id int, gen uint32) api.Outer { return api.Outer{Kind: kind, Id: id, Gen: gen} }

func attempt(at int64, o api.Outer, why, answer int) api.Attempt {
	return api.Attempt{At: at, Out: o, Why: why, Answer: answer}
}

// exampleA, exampleB and exampleC are the attempts of the chapter's examples.
func exampleA() api.Attempt { return attempt(5, f31, 1, 2) }
func exampleB() api.Attempt { return attempt(9, f31, 1, 1) }
func exampleC() api.Attempt { return attempt(9, out(3, 0, 2), 3, 3) }

func examples() []api.Attempt { return []api.Attempt{exampleA(), exampleB(), exampleC()} }

// possible is what the chapter says of a valid attempt, written out a second time.
func possible(a api.Attempt) bool {
	some := []int{1, 2, 3}
	return a.At >= 0 && a.At <= 1_099_511_627_776 && slices.Contains(some, a.Why) && slices.Contains(some, a.Answer) &&
		slices.Contains(some, a.Out.Kind) && a.Out.Id >= 0 && a.Out.Id <= 63 && a.Out.Gen >= 1
}

// line is what it says of the text of an attempt, with the line feed behind it.
func line(a api.Attempt) string {
	kind := map[int]string{1: "f", 2: "b", 3: "l"}[a.Out.Kind]
	why := map[int]string{1: "close", 2: "expiry", 3: "collect"}[a.Why]
	answer := map[int]string{1: "ok", 2: "later", 3: "fail"}[a.Answer]
	return fmt.Sprintf("%d %s%d:%d %s %s\n", a.At, kind, a.Out.Id, a.Out.Gen, why, answer)
}

// written is what it says of writing a list.
func written(list []api.Attempt) (string, api.Errno) {
	if slices.ContainsFunc(list, func(a api.Attempt) bool { return !possible(a) }) {
		return "", api.ErrArg
	}
	var text strings.Builder
	for _, a := range list {
		text.WriteString(line(a))
	}
	if text.Len() > 65_536 {
		return "", api.ErrLong
	}
	return text.String(), api.OK
}

var form = regexp.MustCompile(`\A(0|[1-9][0-9]*) ([fbl])(0|[1-9][0-9]*):([1-9][0-9]*) (close|expiry|collect) (ok|later|fail)\n\z`)

// upTo returns the number whose digits a text is, if it is at most that.
func upTo(most int64, digits string) (int64, bool) {
	n, _ := new(big.Int).SetString(digits, 10)
	return n.Int64(), n.Cmp(big.NewInt(most)) <= 0
}

// lineRead is what the chapter says of reading a line.
func lineRead(line string) (api.Attempt, bool) {
	parts := form.FindStringSubmatch(line)
	if parts == nil {
		return api.Attempt{}, false
	}
	at, isTime := upTo(1<<40, parts[1])
	id, isId := upTo(63, parts[3])
	gen, isGen := upTo(1<<32-1, parts[4])
	if !isTime || !isId || !isGen {
		return api.Attempt{}, false
	}
	number := map[string]int{"f": 1, "b": 2, "l": 3, "close": 1, "expiry": 2, "collect": 3, "ok": 1, "later": 2, "fail": 3}
	return attempt(at, out(number[parts[2]], int(id), uint32(gen)), number[parts[5]], number[parts[6]]), true
}

// textRead is what it says of reading a text.
func textRead(text string) ([]api.Attempt, int, api.Errno) {
	if len(text) > 65_536 {
		return nil, 0, api.ErrLong
	}
	var list []api.Attempt
	for i, s := range strings.SplitAfter(text, "\n") {
		if s == "" {
			// Nothing stands behind the last line feed.
			continue
		}
		a, is := lineRead(s)
		if !is {
			return nil, i + 1, api.ErrForm
		}
		list = append(list, a)
	}
	return list, 0, api.OK
}

// plan is the attempts that a ledger has to have.
type plan []api.Attempt

func (p *plan) add(a api.Attempt) api.Errno {
	n := len(*p)
	switch {
	case !possible(a):
		return api.ErrArg
	case n > 0 && a.At < (*p)[n-1].At:
		return api.ErrState
	case n >= 10_000:
		return api.ErrFull
	}
	*p = append(slices.Clip(*p), a)
	return api.OK
}

func (p plan) of(o api.Outer) []api.Attempt {
	var list []api.Attempt
	for _, a := range p {
		if a.Out == o {
			list = append(list, a)
		}
	}
	return list
}

func (p plan) ended(o api.Outer) (int, bool) {
	for _, a := range p.of(o) {
		if a.Answer == 1 || a.Answer == 3 {
			return a.Answer, true
		}
	}
	return 0, false
}

// adds changes a ledger and its plan.
func adds(t *testing.T, l *Ledger, p *plan, list ...api.Attempt) {
	t.Helper()
	for _, a := range list {
		if e, want := l.Add(a), p.add(a); e != want {
			t.Errorf("Add(%v) = %d, want %d", a, e, want)
		}
	}
}

// made returns a ledger with these attempts, and its plan.
func made(t *testing.T, list ...api.Attempt) (*Ledger, *plan) {
	t.Helper()
	l, p := New(), new(plan)
	adds(t, l, p, list...)
	if len(*p) != len(list) {
		t.Errorf("%d attempts were to be added; %d were", len(list), len(*p))
	}
	return l, p
}

// filled returns a ledger with n attempts for many resources, at most at the time 10, and its plan.
func filled(t *testing.T, n int) (*Ledger, *plan) {
	t.Helper()
	l, p := New(), plan(make([]api.Attempt, n))
	for i := range p {
		p[i] = attempt(int64(10*i/10_000), out(1+i%3, i%7, uint32(1+i%5)), 1+i%3, 1+i/2%3)
		if e := l.Add(p[i]); e != api.OK {
			t.Fatalf("Add %d: %d", i, e)
		}
	}
	return l, &p
}

// has asks all questions about a ledger.
func has(t *testing.T, l *Ledger, p *plan) {
	t.Helper()
	if n := l.Len(); n != len(*p) {
		t.Errorf("Len: %d, want %d", n, len(*p))
	}
	if list := l.All(); !slices.Equal(list, *p) {
		t.Errorf("All: %.200v, want %.200v", list, *p)
	}
	for _, o := range slices.Concat(outs, noOuts) {
		of := p.of(o)
		if list := l.Of(o); !slices.Equal(list, of) {
			t.Errorf("Of(%v): %.200v, want %.200v", o, list, of)
		}
		want := append(of, api.Attempt{})[0]
		if a, is := l.First(o); a != want || is != (len(of) > 0) {
			t.Errorf("First(%v): %v, %v, want %v", o, a, is, want)
		}
		ended, isEnded := p.ended(o)
		if answer, is := l.Ended(o); answer != ended || is != isEnded {
			t.Errorf("Ended(%v): %d, %v, want %d, %v", o, answer, is, ended, isEnded)
		}
	}
}

// goods returns valid attempts: each part takes all or some of its values, with the others at some of theirs.
func goods() []api.Attempt {
	var all []api.Attempt
	for _, at := range someTimes {
		for _, o := range outs {
			for why := 1; why <= 3; why++ {
				for answer := 1; answer <= 3; answer++ {
					all = append(all, attempt(at, o, why, answer))
				}
			}
		}
	}
	for kind := 1; kind <= 3; kind++ {
		for id := range 64 {
			for _, gen := range []uint32{1, 2, 10, 1 << 16, 1 << 31, last - 1, last} {
				all = append(all, attempt(int64(id), out(kind, id, gen), 1+id%3, kind))
			}
		}
	}
	return all
}

// bads returns attempts that are not valid, with each part the only wrong one, and with several wrong ones.
func bads() []api.Attempt {
	all := []api.Attempt{{}}
	for _, at := range noTimes {
		all = append(all, attempt(at, f31, 1, 1), attempt(at, out(2, 63, last), 2, 2), attempt(at, api.Outer{}, 0, 0))
	}
	for _, at := range []int64{0, 5, 1 << 40} {
		for _, o := range noOuts {
			all = append(all, attempt(at, o, 1, 1), attempt(at, o, 3, 3), attempt(at, o, 4, 1))
		}
		for _, n := range noNumbers {
			all = append(all, attempt(at, f31, n, 1), attempt(at, f31, n, 3), attempt(at, f31, 1, n), attempt(at, f31, 3, n), attempt(at, f31, n, n))
		}
	}
	return all
}

// P7.1

func TestNew(t *testing.T) {
	l, p := New(), new(plan)
	if l == nil {
		t.Fatal("New returns nil")
	}
	has(t, l, p)
	adds(t, l, p, examples()...)
	has(t, l, p)
}

func TestNewLedgersAreIndependent(t *testing.T) {
	a, p := made(t, exampleA())
	b, q := New(), new(plan)
	has(t, b, q)
	adds(t, b, q, exampleC(), exampleB())
	adds(t, a, p, attempt(7, f31, 2, 3))
	has(t, a, p)
	has(t, b, q)
}

func TestCopy(t *testing.T) {
	for _, n := range []int{0, 1, 2, 3, 4, 5, 8, 9, 100, 1000, 9_999, 10_000} {
		l, p := filled(t, n)
		c, q := l.Copy(), slices.Clone(*p)
		if c == nil || c == l {
			t.Fatal("the copy of", n, "is", c)
		}
		has(t, c, &q)
		has(t, l, p)
		has(t, c.Copy(), &q)
		// The copy goes on as the ledger would: with its last time, and as much room.
		adds(t, c, &q, attempt(-1, f31, 1, 1), attempt(0, f31, 1, 1), attempt(10, f31, 1, 1), attempt(9, f31, 1, 1), attempt(10, f31, 2, 3))
		has(t, c, &q)
		has(t, l, p)
	}
}

func TestCopyIsIndependent(t *testing.T) {
	for n := range 20 {
		for _, changesCopy := range []bool{false, true} {
			// All of them are for the resource that each goes on with.
			changed, p := made(t, slices.Repeat([]api.Attempt{attempt(10, f31, 1, 2)}, n)...)
			left, q := changed.Copy(), slices.Clone(*p)
			if changesCopy {
				changed, left = left, changed
			}
			adds(t, changed, p, attempt(20, f31, 1, 2), attempt(30, out(2, 3, 1), 3, 3))
			has(t, changed, p)
			has(t, left, &q)
			// Each goes on, behind the other's back.
			adds(t, left, &q, attempt(15, out(3, 0, 2), 2, 1), attempt(16, f31, 2, 3), attempt(16, f31, 2, 1))
			has(t, changed, p)
			has(t, left, &q)
			adds(t, changed, p, attempt(25, f31, 1, 1), attempt(30, f31, 1, 1))
			adds(t, left, &q, attempt(25, f31, 3, 2))
			has(t, changed, p)
			has(t, left, &q)
		}
	}
}

// P7.2

func TestCheck(t *testing.T) {
	for _, a := range goods() {
		if e := Check(a); e != api.OK {
			t.Errorf("Check(%v) = %d", a, e)
		}
	}
	for _, a := range bads() {
		if e := Check(a); e != api.ErrArg || possible(a) {
			t.Errorf("Check(%v) = %d", a, e)
		}
	}
}

func TestCheckBesideTheEnds(t *testing.T) {
	for _, at := range []int64{-2, -1, 0, 1, 1<<40 - 1, 1 << 40, 1<<40 + 1} {
		for kind := -1; kind <= 5; kind++ {
			for _, id := range []int{-1, 0, 1, 62, 63, 64} {
				for _, gen := range []uint32{0, 1, last} {
					for why := -1; why <= 5; why++ {
						for answer := -1; answer <= 5; answer++ {
							a := attempt(at, out(kind, id, gen), why, answer)
							if e := Check(a); (e == api.OK) != possible(a) || e != api.OK && e != api.ErrArg {
								t.Fatalf("Check(%v) = %d", a, e)
							}
						}
					}
				}
			}
		}
	}
}

// P7.3

func TestExamplesOfLedgers(t *testing.T) {
	l := New()
	for i, x := range []struct {
		a api.Attempt
		e api.Errno
	}{{exampleA(), api.OK}, {exampleB(), api.OK}, {exampleC(), api.OK}, {exampleA(), api.ErrState}} {
		if e := l.Add(x.a); e != x.e {
			t.Error("Add", i, e)
		}
	}
	if n := l.Len(); n != 3 {
		t.Error("Len", n)
	}
	if list := l.Of(f31); !slices.Equal(list, []api.Attempt{exampleA(), exampleB()}) {
		t.Error("Of f3:1", list)
	}
	if a, is := l.First(f31); a != exampleA() || !is {
		t.Error("First f3:1", a, is)
	}
	if n, is := l.Ended(f31); n != 1 || !is {
		t.Error("Ended f3:1", n, is)
	}
	if n, is := l.Ended(out(3, 0, 2)); n != 3 || !is {
		t.Error("Ended l0:2", n, is)
	}
	if a, is := l.First(out(3, 0, 1)); a != (api.Attempt{}) || is {
		t.Error("First l0:1", a, is)
	}
	if list := l.Of(out(2, 3, 1)); len(list) != 0 {
		t.Error("Of b3:1", list)
	}
	for _, a := range []api.Attempt{attempt(-1, f31, 1, 2), attempt(5, f31, 4, 2), attempt(5, f31, 1, 0), attempt(5, out(4, 3, 1), 1, 2)} {
		if e := l.Add(a); e != api.ErrArg {
			t.Error("Add", a, e)
		}
	}
	if list := l.All(); !slices.Equal(list, examples()) {
		t.Error("All", list)
	}
}

func TestAddOfValidAttempts(t *testing.T) {
	for _, a := range goods() {
		l, p := made(t, a)
		if list := l.All(); !slices.Equal(list, []api.Attempt{a}) || l.Len() != 1 || !slices.Equal(l.Of(a.Out), list) {
			t.Errorf("Add(%v): %v, %v", a, list, l.Of(a.Out))
		}
		// The same attempt may come again, also behind an end.
		adds(t, l, p, a, a)
		if !slices.Equal(l.All(), *p) || l.Len() != 3 {
			t.Errorf("Add(%v) three times: %v", a, l.All())
		}
	}
}

func TestAddRefusesAttemptsThatAreNotValid(t *testing.T) {
	for _, list := range [][]api.Attempt{nil, {exampleA()}, examples(), {attempt(1<<40, f31, 1, 1)}} {
		l, p := made(t, list...)
		for _, a := range bads() {
			if e := l.Add(a); e != api.ErrArg {
				t.Errorf("Add(%v) behind %v: %d", a, list, e)
			}
		}
		has(t, l, p)
	}
}

func TestTimesNeverGoBack(t *testing.T) {
	for _, before := range someTimes {
		l, p := made(t, attempt(before, f31, 1, 2))
		for _, at := range someTimes {
			want := api.OK
			if at < before {
				want = api.ErrState
			}
			// It does not matter for which resource the attempts are.
			for _, o := range outs {
				c := l.Copy()
				if e := c.Add(attempt(at, o, 2, 1)); e != want {
					t.Error("Add at", at, "behind", before, ":", e)
				}
			}
		}
		has(t, l, p)
	}
	// The last attempt counts, and no refused one.
	l, p := made(t, attempt(3, f31, 1, 2), attempt(7, f31, 1, 2))
	for _, x := range []struct {
		at int64
		e  api.Errno
	}{{5, api.ErrState}, {3, api.ErrState}, {7, api.OK}, {6, api.ErrState}, {8, api.OK}, {7, api.ErrState}, {1 << 40, api.OK}, {1<<40 + 1, api.ErrArg}, {1<<40 - 1, api.ErrState}, {1 << 40, api.OK}, {0, api.ErrState}, {-1, api.ErrArg}} {
		if e := l.Add(attempt(x.at, f31, 1, 2)); e != x.e {
			t.Error("Add at", x.at, ":", e)
		}
		p.add(attempt(x.at, f31, 1, 2))
		has(t, l, p)
	}
}

func TestRoom(t *testing.T) {
	l, p := filled(t, 9_998)
	adds(t, l, p, attempt(10, f31, 1, 2))
	if l.Len() != 9_999 {
		t.Error(l.Len())
	}
	has(t, l, p)
	if e := l.Add(attempt(10, f31, 3, 3)); e != api.OK || l.Len() != 10_000 {
		t.Error("attempt 10,000:", e, l.Len())
	}
	p.add(attempt(10, f31, 3, 3))
	has(t, l, p)
	for range 3 {
		for _, x := range []struct {
			a api.Attempt
			e api.Errno
		}{
			{attempt(10, f31, 3, 3), api.ErrFull},
			{attempt(11, f31, 3, 3), api.ErrFull},
			{attempt(1<<40, out(3, 3, 1), 1, 1), api.ErrFull},
			// What is wrong with the attempt, and then with its time, comes before what there is no room for.
			{attempt(9, f31, 3, 3), api.ErrState},
			{attempt(0, f31, 3, 3), api.ErrState},
			{attempt(11, f31, 4, 3), api.ErrArg},
			{attempt(11, f31, 3, 0), api.ErrArg},
			{attempt(11, api.Outer{}, 3, 3), api.ErrArg},
			{attempt(1<<40+1, f31, 3, 3), api.ErrArg},
			{attempt(9, f31, 4, 3), api.ErrArg},
			{attempt(-1, f31, 3, 3), api.ErrArg},
			{api.Attempt{}, api.ErrArg},
		} {
			if e := l.Add(x.a); e != x.e {
				t.Errorf("Add(%v) to a full ledger: %d, want %d", x.a, e, x.e)
			}
		}
		has(t, l, p)
	}
	if e := New().Add(exampleA()); e != api.OK {
		t.Error("another ledger has room:", e)
	}
}

// What goes back in time and is not valid is ErrArg.
func TestErrorsOfAddAreInOrder(t *testing.T) {
	l, p := made(t, attempt(1<<40, f31, 1, 2))
	for _, a := range bads() {
		if e := l.Add(a); e != api.ErrArg {
			t.Errorf("Add(%v) = %d", a, e)
		}
	}
	for _, a := range goods() {
		want := api.ErrState
		if a.At == 1<<40 {
			want = api.OK
		}
		if e := l.Copy().Add(a); e != want {
			t.Errorf("Add(%v) = %d, want %d", a, e, want)
		}
	}
	has(t, l, p)
}

// P7.4 and P7.5

func TestQuestions(t *testing.T) {
	for n := range 60 {
		l, p := filled(t, n)
		has(t, l, p)
	}
	for _, n := range []int{1_000, 9_999, 10_000} {
		l, p := filled(t, n)
		has(t, l, p)
	}
	l, p := New(), new(plan)
	for i, o := range slices.Concat(outs, outs, outs) {
		adds(t, l, p, attempt(int64(i), o, 1+i%3, 1+i/4%3))
		has(t, l, p)
	}
}

// The same number and generation is that of three resources, one of each kind; so a kind and number is that of many, one of each generation.
func TestResourcesThatDifferInOnePart(t *testing.T) {
	for _, o := range outs[1:] {
		l, _ := made(t, attempt(1, f31, 1, 2), attempt(2, o, 2, 3), attempt(3, f31, 3, 1), attempt(4, o, 2, 1))
		if list := l.Of(f31); !slices.Equal(list, []api.Attempt{attempt(1, f31, 1, 2), attempt(3, f31, 3, 1)}) {
			t.Error(o, "Of the other one:", list)
		}
		if list := l.Of(o); !slices.Equal(list, []api.Attempt{attempt(2, o, 2, 3), attempt(4, o, 2, 1)}) {
			t.Error("Of", o, list)
		}
		if a, is := l.First(o); a != attempt(2, o, 2, 3) || !is {
			t.Error("First", o, a, is)
		}
		if n, is := l.Ended(o); n != 3 || !is {
			t.Error("Ended", o, n, is)
		}
		if n, is := l.Ended(f31); n != 1 || !is {
			t.Error(o, "Ended of the other one:", n, is)
		}
	}
}

func TestEnded(t *testing.T) {
	for _, x := range []struct {
		answers []int
		n       int
		is      bool
	}{
		{nil, 0, false}, {[]int{2}, 0, false}, {[]int{2, 2, 2, 2}, 0, false},
		{[]int{1}, 1, true}, {[]int{3}, 3, true},
		{[]int{2, 1}, 1, true}, {[]int{2, 2, 3}, 3, true},
		{[]int{1, 3}, 1, true}, {[]int{3, 1}, 3, true}, {[]int{2, 3, 1, 1}, 3, true}, {[]int{2, 1, 2, 3}, 1, true},
		{[]int{1, 2}, 1, true}, {[]int{3, 2, 2}, 3, true},
	} {
		l, p := New(), new(plan)
		for i, answer := range x.answers {
			// Attempts for another resource, with each answer, stand between.
			adds(t, l, p, attempt(int64(i), out(2, 3, 1), 1, 1+i%3), attempt(int64(i), f31, 1+i%3, answer))
		}
		if n, is := l.Ended(f31); n != x.n || is != x.is {
			t.Error(x, n, is)
		}
		if a, is := l.First(f31); is != (len(x.answers) > 0) || is && a != attempt(0, f31, 1, x.answers[0]) {
			t.Error(x, a, is)
		}
		has(t, l, p)
	}
}

// The first attempt is the one that was added first, whatever it says.
func TestFirst(t *testing.T) {
	for why := 1; why <= 3; why++ {
		for answer := 1; answer <= 3; answer++ {
			want := attempt(4, f31, why, answer)
			l, _ := made(t, attempt(4, out(3, 3, 1), 1, 1), want, attempt(4, f31, 1, 1), attempt(4, f31, 3, 2), attempt(5, f31, 2, 3))
			if a, is := l.First(f31); a != want || !is {
				t.Error(want, a, is)
			}
		}
	}
}

// P7.6

// holdPrint checks Print on a list.
func holdPrint(t *testing.T, list []api.Attempt) {
	t.Helper()
	before := slices.Clone(list)
	want, wantE := written(list)
	if s, e := Print(list); s != want || e != wantE {
		t.Errorf("Print(%.200v) = %.200q, %d; want %.200q, %d", list, s, e, want, wantE)
	}
	if !slices.Equal(list, before) {
		t.Errorf("Print changes %.200v to %.200v", before, list)
	}
}

func TestExamplesOfPrint(t *testing.T) {
	if s, e := Print(examples()); s != "5 f3:1 close later\n9 f3:1 close ok\n9 l0:2 collect fail\n" || e != api.OK {
		t.Errorf("%q %d", s, e)
	}
	for _, list := range [][]api.Attempt{nil, {}} {
		if s, e := Print(list); s != "" || e != api.OK {
			t.Errorf("%q %d", s, e)
		}
	}
	if s, e := Print([]api.Attempt{attempt(1<<40, out(2, 63, last), 2, 3)}); s != "1099511627776 b63:4294967295 expiry fail\n" || e != api.OK {
		t.Errorf("%q %d", s, e)
	}
}

func TestPrint(t *testing.T) {
	all := goods()
	for i, a := range all {
		holdPrint(t, []api.Attempt{a})
		// Times that are equal, that rise and that go back.
		holdPrint(t, []api.Attempt{a, all[(i*7+3)%len(all)], a, all[(i*5+1)%len(all)]})
	}
	for n := range 1000 {
		holdPrint(t, all[:n])
	}
}

func TestPrintRefusesAttemptsThatAreNotValid(t *testing.T) {
	for _, a := range bads() {
		for _, list := range [][]api.Attempt{{a}, {a, exampleA(), exampleB()}, {exampleA(), a, exampleB()}, {exampleA(), exampleB(), a}, {a, a}} {
			if s, e := Print(list); s != "" || e != api.ErrArg {
				t.Errorf("Print(%v) = %q, %d", list, s, e)
			}
		}
	}
}

// long returns attempts whose text has just so many bytes, from 31 on.
func long(bytes int) []api.Attempt {
	// These texts have 16 bytes and, with longer times, up to 15 more.
	var list []api.Attempt
	for ; bytes >= 32; bytes -= 16 {
		list = append(list, attempt(int64(bytes%10), out(1, 0, 1), 1, 1))
	}
	for _, a := range []api.Attempt{attempt(0, out(1, 0, 1), 1, 1), attempt(1, out(1, 10, 100), 2, 3), attempt(1_000_000, out(3, 1, 1), 3, 1)} {
		for at := max(a.At, 1); ; at *= 10 {
			if a.At = at; !possible(a) {
				break
			}
			if len(line(a)) == bytes {
				return append(list, a)
			}
		}
	}
	panic("no such list")
}

func TestPrintOfLongLists(t *testing.T) {
	for bytes := 65_500; bytes <= 65_600; bytes++ {
		list := long(bytes)
		if text, _ := written(list); bytes <= 65_536 && len(text) != bytes {
			t.Fatal("the list has", len(text), "bytes and not", bytes)
		}
		holdPrint(t, list)
	}
	if s, e := Print(long(65_536)); len(s) != 65_536 || e != api.OK {
		t.Error("65,536 bytes:", len(s), e)
	}
	if s, e := Print(long(65_537)); s != "" || e != api.ErrLong {
		t.Error("65,537 bytes:", len(s), e)
	}
	for _, n := range []int{4095, 4096, 4097, 9_999, 10_000, 10_001, 100_000} {
		list := slices.Repeat([]api.Attempt{attempt(0, out(1, 0, 1), 1, 1)}, n)
		holdPrint(t, list)
		// What is too long is ErrArg all the same, if an attempt is not valid.
		for _, at := range []int{0, n / 2, 4094, n - 1} {
			for _, a := range []api.Attempt{{}, attempt(-1, f31, 1, 1), attempt(0, f31, 1, 4)} {
				was := list[at]
				list[at] = a
				if s, e := Print(list); s != "" || e != api.ErrArg {
					t.Error(n, "attempts with", a, "at", at, ":", len(s), e)
				}
				list[at] = was
			}
		}
	}
}

// The elements between a slice's length and its capacity do not matter (R4).
func TestPrintReadsNoFurther(t *testing.T) {
	list := append(examples(), api.Attempt{})
	for n := range 4 {
		holdPrint(t, list[:n])
	}
	if s, e := Print(make([]api.Attempt, 100)[:0]); s != "" || e != api.OK {
		t.Error(s, e)
	}
	if !slices.Equal(list[:3], examples()) || list[3] != (api.Attempt{}) {
		t.Error(list)
	}
}

// P7.7

// holdParse checks Parse on a text, whatever it is.
func holdParse(t *testing.T, s string) {
	t.Helper()
	want, wantN, wantE := textRead(s)
	if list, n, e := Parse(s); !slices.Equal(list, want) || n != wantN || e != wantE {
		t.Errorf("Parse(%.200q) of %d bytes = %.200v, %d, %d; want %.200v, %d, %d", s, len(s), list, n, e, want, wantN, wantE)
	}
}

// wrong are lines that are not the text of an attempt, each without its line feed.
var wrong = []string{
	"", " ", "x", "\x00", "\xff", "\r", "5", "5 ", "5 f3:1", "5 f3:1 close", "5 f3:1 close ", "f3:1 close ok", " f3:1 close ok", "5 close ok", "5  close ok", "5 f3:1 ok", "5 f3:1  ok", "   ", "    ",
	"5 f3:1 close ok ", " 5 f3:1 close ok", "5  f3:1 close ok", "5 f3:1  close ok", "5 f3:1 close  ok", "5\tf3:1 close ok", "5 f3:1\tclose ok", "5,f3:1 close ok", "5\u00a0f3:1 close ok",
	"5 f3:1 close ok x", "5 f3:1 close ok ok", "x 5 f3:1 close ok", "5 f3:1 close ok 5 f3:1 close ok", "5 f3:1 close ok\r", "5 f3:1 close ok\x00", "5f3:1 close ok", "5 f3:1closeok", "5 f3:1 closeok",
	"05 f3:1 close ok", "00 f3:1 close ok", "005 f3:1 close ok", "-5 f3:1 close ok", "-0 f3:1 close ok", "-1 f3:1 close ok", "+5 f3:1 close ok", "5. f3:1 close ok", "5.0 f3:1 close ok", "5e0 f3:1 close ok", "0x5 f3:1 close ok", "1_0 f3:1 close ok", "a f3:1 close ok", "\u0665 f3:1 close ok",
	"1099511627777 f3:1 close ok", "9999999999999 f3:1 close ok", "10995116277760 f3:1 close ok", "9223372036854775807 f3:1 close ok", "9223372036854775808 f3:1 close ok", "18446744073709551616 f3:1 close ok", "18446744073709551621 f3:1 close ok", strings.Repeat("9", 1000) + " f3:1 close ok",
	"5 f64:1 close ok", "5 f-1:1 close ok", "5 f03:1 close ok", "5 f3:0 close ok", "5 f3:01 close ok", "5 f3:4294967296 close ok", "5 f3:4294967297 close ok", "5 f3.1 close ok", "5 x3:1 close ok", "5 F3:1 close ok", "5 3:1 close ok", "5 f:1 close ok", "5 f3: close ok", "5 f3 close ok", "5 f3 :1 close ok",
	"5 f3:1 Close ok", "5 f3:1 CLOSE ok", "5 f3:1 clos ok", "5 f3:1 closes ok", "5 f3:1 closed ok", "5 f3:1 open ok", "5 f3:1 1 ok", "5 f3:1 expire ok", "5 f3:1 expir ok", "5 f3:1 expiryy ok", "5 f3:1 collec ok", "5 f3:1 collects ok", "5 f3:1 lease ok", "5 f3:1 ok ok", "5 f3:1 later ok", "5 f3:1 fail ok",
	"5 f3:1 close Ok", "5 f3:1 close OK", "5 f3:1 close o", "5 f3:1 close okk", "5 f3:1 close late", "5 f3:1 close laters", "5 f3:1 close l", "5 f3:1 close fai", "5 f3:1 close failed", "5 f3:1 close f", "5 f3:1 close 1", "5 f3:1 close close", "5 f3:1 close expiry", "5 f3:1 close collect", "5 f3:1 ok close", "f3:1 5 close ok", "5 close f3:1 ok",
}

func TestExamplesOfParse(t *testing.T) {
	for _, s := range []string{"5 f3:1 close later", "05 f3:1 close ok", "05 f3:1 close ok\n", "5 f3:1  close ok", "5 f3:1  close ok\n"} {
		if list, n, e := Parse(s); list != nil || n != 1 || e != api.ErrForm {
			t.Error(s, list, n, e)
		}
	}
	if list, n, e := Parse(""); len(list) != 0 || n != 0 || e != api.OK {
		t.Error(list, n, e)
	}
	if list, n, e := Parse("5 f3:1 close later\n9 f3:1 close ok\n9 l0:2 collect fail\n"); !slices.Equal(list, examples()) || n != 0 || e != api.OK {
		t.Error(list, n, e)
	}
	// Times may go back.
	if list, n, e := Parse("9 f3:1 close ok\n5 f3:1 close later\n"); !slices.Equal(list, []api.Attempt{exampleB(), exampleA()}) || n != 0 || e != api.OK {
		t.Error(list, n, e)
	}
}

func TestParseOfWrongLines(t *testing.T) {
	good := "5 f3:1 close later\n"
	for _, s := range wrong {
		for before := range 4 {
			for after := range 3 {
				text := strings.Repeat(good, before) + s + "\n" + strings.Repeat(good, after)
				if list, n, e := Parse(text); list != nil || n != before+1 || e != api.ErrForm {
					t.Errorf("Parse(%.200q) = %v, %d, %d; want line %d", text, list, n, e, before+1)
				}
				holdParse(t, text)
			}
			holdParse(t, strings.Repeat(good, before)+s)
		}
		// The first of several wrong lines is named.
		for _, other := range wrong[:5] {
			text := good + s + "\n" + other + "\n" + good
			if list, n, e := Parse(text); list != nil || n != 2 || e != api.ErrForm {
				t.Errorf("Parse(%.200q) = %v, %d, %d; want line 2", text, list, n, e)
			}
		}
	}
}

func TestParseOfLinesWithoutTheirLineFeeds(t *testing.T) {
	for n := range 5 {
		for _, a := range examples() {
			s := strings.Repeat("9 b1:2 expiry fail\n", n) + line(a)
			holdParse(t, s)
			// What is cut off somewhere ends with a line that is no text, but for the line feed that it may end with.
			for cut := range s {
				holdParse(t, s[:cut])
				holdParse(t, s[cut:])
			}
			if list, at, e := Parse(strings.TrimSuffix(s, "\n")); list != nil || at != n+1 || e != api.ErrForm {
				t.Error("without the last line feed, behind", n, "lines:", list, at, e)
			}
			if list, at, e := Parse(s + "\n"); list != nil || at != n+2 || e != api.ErrForm {
				t.Error("with an empty line behind", n+1, "lines:", list, at, e)
			}
			if list, at, e := Parse("\n" + s); list != nil || at != 1 || e != api.ErrForm {
				t.Error("with an empty line before", n+1, "lines:", list, at, e)
			}
		}
	}
}

// All texts that differ from one of a list by a byte: left out, put in, or replaced.
func TestParseOfNeighbours(t *testing.T) {
	for _, s := range []string{"5 f3:1 close later\n9 l0:2 collect ok\n", "0 b10:20 expiry fail\n1099511627776 f63:4294967295 close later\n"} {
		for i := range len(s) + 1 {
			for b := range 256 {
				holdParse(t, s[:i]+string([]byte{byte(b)})+s[i:])
				if i < len(s) {
					holdParse(t, s[:i]+string([]byte{byte(b)})+s[i+1:])
				}
			}
			if i < len(s) {
				holdParse(t, s[:i]+s[i+1:])
			}
		}
	}
}

func TestParseOfLines(t *testing.T) {
	times := []string{"0", "1", "9", "10", "01", "00", "-1", "", "1099511627775", "1099511627776", "1099511627777", "x"}
	names := []string{"f3:1", "b63:4294967295", "l0:2", "f64:1", "f3:0", "f3.1", "l3", ""}
	whys := []string{"close", "expiry", "collect", "Close", "collec", "", "ok"}
	answers := []string{"ok", "later", "fail", "Fail", "fai", "", "close"}
	for _, at := range times {
		for _, name := range names {
			for _, why := range whys {
				for _, answer := range answers {
					s := strings.Join([]string{at, name, why, answer}, " ")
					holdParse(t, s)
					holdParse(t, s+"\n")
					holdParse(t, "5 f3:1 close ok\n"+s+"\n7 f3:1 close fail\n")
				}
			}
		}
	}
}

// All short texts of bytes that matter.
func TestParseOfShortTexts(t *testing.T) {
	texts := []string{""}
	for range 7 {
		var longer []string
		for _, s := range texts {
			holdParse(t, s)
			for _, b := range "5 f:\n" {
				longer = append(longer, s+string(b))
			}
		}
		texts = longer
	}
	for a := range 256 {
		for b := range 256 {
			holdParse(t, string([]byte{byte(a), byte(b)}))
		}
	}
}

func TestParseOfLongTexts(t *testing.T) {
	for bytes := 65_530; bytes <= 65_540; bytes++ {
		list := long(bytes)
		var text strings.Builder
		for _, a := range list {
			text.WriteString(line(a))
		}
		s := text.String()
		holdParse(t, s)
		holdParse(t, strings.TrimSuffix(s, "\n"))
		holdParse(t, "x"+s[1:])
		for _, b := range []string{"x", "\n", " "} {
			holdParse(t, strings.Repeat(b, bytes))
			holdParse(t, s[:len(s)-1]+b)
			holdParse(t, s[:bytes/2]+b+s[bytes/2+1:])
		}
	}
	if list, n, e := Parse(strings.Repeat("0 f0:1 close ok\n", 4096)); len(list) != 4096 || n != 0 || e != api.OK {
		t.Error("65,536 bytes:", len(list), n, e)
	}
	// What is too long is ErrLong, whatever its lines are.
	for _, s := range []string{strings.Repeat("0 f0:1 close ok\n", 4095) + "10 f0:1 close ok\n", strings.Repeat("x", 65_537), strings.Repeat("\n", 65_537), strings.Repeat("0 f0:1 close ok\n", 4096) + "x", strings.Repeat("x\n", 1_000_000)} {
		if list, n, e := Parse(s); list != nil || n != 0 || e != api.ErrLong {
			t.Error(len(s), "bytes:", len(list), n, e)
		}
	}
	// The last line may be the first wrong one.
	if list, n, e := Parse(strings.Repeat("0 f0:1 close ok\n", 4095) + "0 f0:1 close okk"); list != nil || n != 4096 || e != api.ErrForm {
		t.Error("line 4,096:", len(list), n, e)
	}
}

// P7.8 and G8

func TestTexts(t *testing.T) {
	holds := func(list []api.Attempt) {
		t.Helper()
		s, e := Print(list)
		back, n, f := Parse(s)
		if e != api.OK || f != api.OK || n != 0 || !slices.Equal(back, list) {
			t.Errorf("%.200v is written, and read as %.200v: %d, %d, %d", list, back, e, n, f)
		}
		if again, e := Print(back); again != s || e != api.OK {
			t.Errorf("%.200q is read, and written as %.200q: %d", s, again, e)
		}
	}
	all := goods()
	for i, a := range all {
		holds([]api.Attempt{a})
		holds([]api.Attempt{a, all[(i*7+3)%len(all)], a})
		holds(all[i/2 : min(i, i/2+200)])
	}
	for bytes := 65_500; bytes <= 65_536; bytes++ {
		holds(long(bytes))
	}
	holds(nil)
	l, _ := filled(t, 2_000)
	holds(l.All())
	holds(l.Of(f31))
}

// What was read is written as it was: of texts close to those of lists, too.
func TestWhatWasReadIsWritten(t *testing.T) {
	s := "5 f3:1 close later\n10 l0:2 collect ok\n"
	read := 0
	for i := range len(s) {
		for _, b := range []byte("0123456789 fbl:\ncolectxpirykan") {
			for _, text := range []string{s[:i] + string([]byte{b}) + s[i:], s[:i] + string([]byte{b}) + s[i+1:]} {
				list, _, e := Parse(text)
				if e != api.OK {
					continue
				}
				read++
				if again, e := Print(list); again != text || e != api.OK {
					t.Errorf("%q is read, and written as %q: %d", text, again, e)
				}
			}
		}
	}
	if read < 50 {
		t.Error("only", read, "texts were read")
	}
}

// The text of two lists, one behind the other, is that of both: a text of lines is read line by line.
func TestTextOfTwoLists(t *testing.T) {
	all := goods()
	for i := range 500 {
		a, b := all[i:i+i%4], all[i*2:i*2+i%3]
		s, _ := Print(a)
		u, _ := Print(b)
		if both, e := Print(slices.Concat(a, b)); both != s+u || e != api.OK {
			t.Errorf("%q behind %q: %q, %d", u, s, both, e)
		}
	}
}

// P7.9

func TestOnce(t *testing.T) {
	for _, n := range []int{0, 1, 2, 5, 30, 200, 3_000, 10_000} {
		l, _ := filled(t, n)
		c := l.Copy()
		for _, l := range []*Ledger{l, c} {
			sum, seen := 0, map[api.Outer]bool{}
			for _, a := range l.All() {
				if seen[a.Out] {
					continue
				}
				seen[a.Out] = true
				of := l.Of(a.Out)
				sum += len(of)
				if slices.ContainsFunc(of, func(x api.Attempt) bool { return x.Out != a.Out }) {
					t.Error("Of", a.Out, "has another resource's attempts")
				}
				_, ended := l.Ended(a.Out)
				if ends := slices.ContainsFunc(of, func(x api.Attempt) bool { return x.Answer != api.AnsLater }); ends != ended {
					t.Error("Ended", a.Out, "is", ended)
				}
			}
			if sum != l.Len() || sum != n {
				t.Error(n, "attempts, but those of all resources are", sum, "and Len is", l.Len())
			}
		}
	}
}

// The attempts of all resources, put together by when they were added, are those of the ledger.
func TestAttemptsOfAllResources(t *testing.T) {
	l, p := New(), new(plan)
	for i := range 500 {
		// Each time is that of one attempt, so that the order can be seen.
		adds(t, l, p, attempt(int64(i), outs[i*i%len(outs)], 1+i%3, 1+i%3))
	}
	var all []api.Attempt
	for _, o := range outs {
		all = append(all, l.Of(o)...)
	}
	slices.SortFunc(all, func(a, b api.Attempt) int { return int(a.At - b.At) })
	if !slices.Equal(all, l.All()) || !slices.Equal(all, *p) {
		t.Error("the attempts of all resources are not those of the ledger")
	}
}

// P7.10

// All short sequences of calls, from ledgers with few attempts and from such as are nearly full.
func TestSequences(t *testing.T) {
	changes := []func(l *Ledger, p *plan) *Ledger{
		func(l *Ledger, p *plan) *Ledger { adds(t, l, p, attempt(10, f31, 1, 2)); return l },
		func(l *Ledger, p *plan) *Ledger {
			adds(t, l, p, attempt(11, f31, 2, 3), attempt(11, out(2, 3, 1), 3, 2))
			return l
		},
		func(l *Ledger, p *plan) *Ledger { adds(t, l, p, attempt(12, out(2, 3, 1), 1, 1)); return l },
		func(l *Ledger, p *plan) *Ledger {
			adds(t, l, p, attempt(12, out(3, 3, 1), 1, 4), api.Attempt{})
			return l
		},
		func(l *Ledger, p *plan) *Ledger { clear(l.All()); clear(l.Of(f31)); return l },
		func(l *Ledger, p *plan) *Ledger { c := l.Copy(); l.Add(attempt(13, f31, 1, 1)); return c },
		func(l *Ledger, p *plan) *Ledger { l.Copy().Add(attempt(14, f31, 1, 1)); return l },
	}
	for _, start := range []struct{ attempts, calls int }{{0, 5}, {3, 4}, {9_998, 2}, {9_999, 2}} {
		all := 1
		for range start.calls {
			all *= len(changes)
		}
		for n := range all {
			l, p := filled(t, start.attempts)
			for range start.calls {
				l = changes[n%len(changes)](l, p)
				n /= len(changes)
			}
			has(t, l, p)
			if t.Failed() {
				t.Fatal(start, n)
			}
		}
	}
}

func TestQuestionsAndRefusedCallsChangeNothing(t *testing.T) {
	refused := slices.Concat(bads(), []api.Attempt{attempt(0, f31, 1, 1), attempt(4, out(2, 3, 1), 1, 2)})
	for _, n := range []int{1, 3, 9_999, 10_000} {
		l, p := filled(t, n)
		adds(t, l, p, attempt(20, f31, 1, 2))
		for range 2 {
			for _, a := range refused {
				if e := l.Add(a); e == api.OK {
					t.Errorf("Add(%v) = %d", a, e)
				}
				// A question about a resource that there is nothing of does not make room for it.
				l.Of(a.Out)
				l.First(a.Out)
				l.Ended(a.Out)
			}
			l.Len()
			l.All()
			l.Copy().Add(attempt(30, f31, 1, 1))
			Print(l.All())
			has(t, l, p)
		}
		adds(t, l, p, attempt(19, f31, 1, 1), attempt(20, f31, 1, 1))
		has(t, l, p)
	}
}

// R2

func TestLedgersThatAreNotValid(t *testing.T) {
	for name, l := range map[string]*Ledger{"nil": nil, "zero": {}, "new": new(Ledger)} {
		for range 2 {
			// ErrNil comes before what is wrong with the attempt.
			for _, a := range append(bads(), examples()...) {
				if e := l.Add(a); e != api.ErrNil {
					t.Error(name, "Add", a, e)
				}
			}
			if list := l.All(); list != nil {
				t.Error(name, "All", list)
			}
			for _, o := range slices.Concat(outs, noOuts) {
				if list := l.Of(o); list != nil {
					t.Error(name, "Of", o, list)
				}
				if a, is := l.First(o); a != (api.Attempt{}) || is {
					t.Error(name, "First", o, a, is)
				}
				if n, is := l.Ended(o); n != 0 || is {
					t.Error(name, "Ended", o, n, is)
				}
			}
			if n := l.Len(); n != 0 {
				t.Error(name, "Len", n)
			}
			if c := l.Copy(); c != nil {
				t.Error(name, "Copy", c)
			}
		}
	}
}

// R4

func TestResultsAreNewMemory(t *testing.T) {
	for n := 1; n < 20; n++ {
		l, p := filled(t, n)
		adds(t, l, p, attempt(20, f31, 1, 2), attempt(20, f31, 3, 3))
		for _, ask := range []func() []api.Attempt{l.All, func() []api.Attempt { return l.Of(f31) }} {
			a, b := ask(), ask()
			before := slices.Clone(b)
			clear(a[:cap(a)])
			_ = append(a[:1], exampleC(), exampleC(), exampleC())
			if !slices.Equal(b, before) {
				t.Error("two results share memory:", b, before)
			}
			has(t, l, p)
			// What is added later does not change what was returned.
			adds(t, l, p, attempt(20, f31, 2, 2))
			if !slices.Equal(b, before) {
				t.Error("a result is changed by Add:", b, before)
			}
			has(t, l, p)
		}
	}

	s, _ := Print(examples())
	a, _, _ := Parse(s)
	b, _, _ := Parse(s)
	clear(a[:cap(a)])
	if again, _, _ := Parse(s); !slices.Equal(b, examples()) || !slices.Equal(again, b) {
		t.Error("Parse", b, again)
	}
}

// What an assignment of the struct made is the same ledger: its attempts and their places stay together.
func TestAssignedLedgers(t *testing.T) {
	l, p := made(t, exampleA())
	x := *l
	adds(t, l, p, exampleB())
	adds(t, &x, p, exampleC())
	has(t, l, p)
	has(t, &x, p)
	has(t, x.Copy(), p)
}

// R8

func TestEqualCallsReturnEqualResults(t *testing.T) {
	for _, n := range []int{0, 3, 9_999, 10_000} {
		a, p := filled(t, n)
		b, q := filled(t, n)
		for _, x := range []api.Attempt{attempt(10, f31, 1, 2), {}, attempt(9, f31, 1, 1), attempt(11, out(3, 0, 2), 2, 3)} {
			if e, f := a.Add(x), b.Add(x); e != f {
				t.Error("Add", e, f)
			}
			p.add(x)
			q.add(x)
			has(t, a, p)
			has(t, b, q)
		}
	}
	for _, s := range []string{"", "x", "5 f3:1 close ok\n", "5 f3:1 close ok\n5 f3:1 close\n", strings.Repeat("\n", 65_537)} {
		list, n, e := Parse(s)
		for range 3 {
			if again, m, f := Parse(s); !slices.Equal(again, list) || m != n || f != e {
				t.Errorf("Parse(%.40q): %v, %d, %d, and then %v, %d, %d", s, list, n, e, again, m, f)
			}
		}
	}
}
