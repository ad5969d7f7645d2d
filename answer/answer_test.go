package answer

import (
	"math"
	"slices"
	"strings"
	"testing"

	"estray/api"
)

var (
	// lengths are those of the shortest and the longest texts, and some between.
	lengths = []int{0, 1, 2, 3, 1000, 1998, 1999, 2000}
	// tooLong are those of texts and lists that nothing takes.
	tooLong = []int{2001, 2002, 4000, 65536, 100000}
	// noLetters are texts of no answers, each of which may stand where a letter should; some have the bytes or the digits of answers.
	noLetters = []string{"x", "O", "L", "F", "e", "g", "k", "m", "n", "p", "0", "1", "2", "3", " ", ",", "\n", "\t", "\x00", "\x01", "\x02", "\x03", "\x7f", "\x80", "\xef", "\xff", "é", "ｏ", "\u200b"}
	// noAnswers are numbers that are none; some of them would be answers in fewer bits.
	noAnswers = []int{math.MinInt, math.MinInt + 1, -1 << 32, -257, -255, -3, -2, -1, 0, 4, 5, 102, 108, 111, 255, 256, 257, 258, 259, 1<<16 + 1, 1 << 32, 1<<32 + 1, 1<<32 + 3, math.MaxInt - 1, math.MaxInt}
	// counts are numbers of answers to ask for.
	counts = []int{math.MinInt, -2001, -1, 0, 1, 2, 3, 4, 5, 1999, 2000, 2001, 1 << 32, math.MaxInt}
)

// read is what the chapter says of reading a text, written out a second time.
func read(text string) ([]int, api.Errno) {
	if len(text) > 2000 {
		return nil, api.ErrMany
	}
	var list []int
	for _, b := range []byte(text) {
		a, is := map[byte]int{'o': 1, 'l': 2, 'f': 3}[b]
		if !is {
			return nil, api.ErrForm
		}
		list = append(list, a)
	}
	return list, api.OK
}

// written is what it says of writing a list.
func written(list []int) (string, api.Errno) {
	if len(list) > 2000 {
		return "", api.ErrMany
	}
	text := ""
	for _, a := range list {
		letter, is := map[int]string{1: "o", 2: "l", 3: "f"}[a]
		if !is {
			return "", api.ErrArg
		}
		text += letter
	}
	return text, api.OK
}

// plan is the answers that have to be still to come.
type plan []int

func (p *plan) add(text string) api.Errno {
	list, e := read(text)
	if e == api.OK && len(*p)+len(list) > 2000 {
		e = api.ErrMany
	}
	if e == api.OK {
		*p = slices.Concat(*p, list)
	}
	return e
}

func (p *plan) next() int {
	if len(*p) == 0 {
		return 1
	}
	a := (*p)[0]
	*p = (*p)[1:]
	return a
}

func (p plan) peek(n int) []int {
	var list []int
	for i := 0; i < n && i < len(p); i++ {
		list = append(list, p[i])
	}
	return list
}

// text returns letters, of all three sorts, in an order that does not repeat soon.
func text(length int) string {
	var out strings.Builder
	for i := range length {
		out.WriteByte("olf"[(i*i/3+i/7)%3])
	}
	return out.String()
}

// list returns the answers of text.
func list(length int) []int {
	l, _ := read(text(length))
	return l
}

// short calls f with all texts of at most n of the letters.
func short(letters string, n int, f func(string)) {
	texts := []string{""}
	for range n + 1 {
		var longer []string
		for _, s := range texts {
			f(s)
			for _, l := range letters {
				longer = append(longer, s+string(l))
			}
		}
		texts = longer
	}
}

// spoilt returns a text with a letter that is none at its beginning, in its middle and at its end, with as many bytes as before.
func spoilt(s, wrong string) []string {
	if len(s) < len(wrong) {
		return nil
	}
	var all []string
	for _, at := range []int{0, (len(s) - len(wrong)) / 2, len(s) - len(wrong)} {
		all = append(all, s[:at]+wrong+s[at+len(wrong):])
	}
	return all
}

// made returns a source with the answers of a text to come, and its plan.
func made(t *testing.T, text string) (*Source, *plan) {
	t.Helper()
	s, p := New(), new(plan)
	adds(t, s, p, text)
	return s, p
}

// adds, takes change a source and its plan.
func adds(t *testing.T, s *Source, p *plan, texts ...string) {
	t.Helper()
	for _, text := range texts {
		if e, want := s.Add(text), p.add(text); e != want {
			t.Errorf("Add of %d bytes: %d, want %d", len(text), e, want)
		}
	}
}

func takes(t *testing.T, s *Source, p *plan, times int) {
	t.Helper()
	for i := range times {
		if a, want := s.Next(), p.next(); a != want {
			t.Errorf("Next %d: %d, want %d", i, a, want)
		}
	}
}

// has asks all questions about a source.
func has(t *testing.T, s *Source, p *plan) {
	t.Helper()
	if n := s.Left(); n != len(*p) {
		t.Errorf("Left: %d, want %d", n, len(*p))
	}
	for _, n := range append([]int{len(*p) - 1, len(*p), len(*p) + 1}, counts...) {
		if l := s.Peek(n); !slices.Equal(l, p.peek(n)) {
			t.Errorf("Peek(%d): %v, want %v", n, l, p.peek(n))
		}
	}
}

// goesOn takes all answers of a source, and some more.
func goesOn(t *testing.T, s *Source, p *plan) {
	t.Helper()
	takes(t, s, p, len(*p)+3)
	has(t, s, p)
}

// holdParse checks Parse on a text, whatever it is.
func holdParse(t *testing.T, s string) {
	t.Helper()
	want, wantE := read(s)
	if l, e := Parse(s); !slices.Equal(l, want) || e != wantE {
		t.Errorf("Parse(%.40q) of %d bytes = %v, %d; want %v, %d", s, len(s), l, e, want, wantE)
	}
}

// holdPrint checks Print on a list.
func holdPrint(t *testing.T, l []int) {
	t.Helper()
	before := slices.Clone(l)
	want, wantE := written(l)
	if s, e := Print(l); s != want || e != wantE {
		t.Errorf("Print(%v) = %q, %d; want %q, %d", l, s, e, want, wantE)
	}
	if !slices.Equal(l, before) {
		t.Errorf("Print changes %v to %v", before, l)
	}
}

// P6.1

func TestExamplesOfParseAndPrint(t *testing.T) {
	for _, x := range []struct {
		text string
		list []int
	}{{"olf", []int{1, 2, 3}}, {"", nil}, {"o", []int{1}}, {"l", []int{2}}, {"f", []int{3}}, {"ffol", []int{3, 3, 1, 2}}} {
		if l, e := Parse(x.text); !slices.Equal(l, x.list) || e != api.OK {
			t.Error("Parse", x.text, l, e)
		}
		if s, e := Print(x.list); s != x.text || e != api.OK {
			t.Error("Print", x.list, s, e)
		}
	}
	for _, s := range []string{"olx", "xol", "oxl", "x"} {
		if l, e := Parse(s); len(l) != 0 || e != api.ErrForm {
			t.Error("Parse", s, l, e)
		}
	}
	for _, l := range [][]int{{4}, {0}, {-1}, {1, 2, 3, 4}, {0, 1}, {1, 4, 1}} {
		if s, e := Print(l); s != "" || e != api.ErrArg {
			t.Error("Print", l, s, e)
		}
	}
}

func TestParseOfShortTexts(t *testing.T) {
	short("olfxO\x00", 5, func(s string) { holdParse(t, s) })
	for a := range 256 {
		holdParse(t, string([]byte{byte(a)}))
		for b := range 256 {
			holdParse(t, string([]byte{byte(a), byte(b)}))
		}
	}
}

func TestParseOfLongTexts(t *testing.T) {
	for _, n := range slices.Concat(lengths, tooLong) {
		holdParse(t, text(n))
		for _, letter := range []string{"o", "l", "f"} {
			holdParse(t, strings.Repeat(letter, n))
		}
		for _, wrong := range noLetters {
			for _, s := range spoilt(text(n), wrong) {
				holdParse(t, s)
			}
		}
	}
	if l, e := Parse(text(2000)); len(l) != 2000 || e != api.OK {
		t.Error("2,000 letters:", len(l), e)
	}
	if l, e := Parse(text(2001)); l != nil || e != api.ErrMany {
		t.Error("2,001 letters:", len(l), e)
	}
}

// What is too long is ErrMany, also if a letter in it is none.
func TestParseOfTextsThatAreTooLongAndWrong(t *testing.T) {
	for _, n := range tooLong {
		for _, wrong := range noLetters {
			for _, s := range append(spoilt(text(n), wrong), strings.Repeat(wrong, n)) {
				if l, e := Parse(s); l != nil || e != api.ErrMany {
					t.Errorf("Parse of %d bytes with %q: %v, %d", len(s), wrong, l, e)
				}
			}
		}
	}
	for _, n := range lengths[1:] {
		if l, e := Parse(strings.Repeat("x", n)); l != nil || e != api.ErrForm {
			t.Error("Parse of", n, "letters that are none:", l, e)
		}
	}
}

// A text is measured in bytes, not in runes.
func TestParseCountsBytes(t *testing.T) {
	for _, x := range []struct {
		text string
		e    api.Errno
	}{
		{strings.Repeat("é", 1000), api.ErrForm},
		{strings.Repeat("é", 1001), api.ErrMany},
		{strings.Repeat("é", 2000), api.ErrMany},
		{strings.Repeat("o", 1998) + "é", api.ErrForm},
		{strings.Repeat("o", 1999) + "é", api.ErrMany},
	} {
		if l, e := Parse(x.text); l != nil || e != x.e {
			t.Error(len(x.text), "bytes:", l, e, "want", x.e)
		}
	}
}

func TestPrintOfShortLists(t *testing.T) {
	lists := [][]int{nil}
	for range 5 {
		var longer [][]int
		for _, l := range lists {
			holdPrint(t, l)
			for a := -1; a <= 5; a++ {
				longer = append(longer, append(slices.Clone(l), a))
			}
		}
		lists = longer
	}
	for _, a := range noAnswers {
		holdPrint(t, []int{a})
	}
	for a := range 300 {
		holdPrint(t, []int{a})
		holdPrint(t, []int{-a})
	}
	holdPrint(t, []int{})
}

func TestPrintOfLongLists(t *testing.T) {
	for _, n := range lengths {
		holdPrint(t, list(n))
		for _, a := range noAnswers {
			for at := range min(n, 3) {
				l := list(n)
				l[at*(n-1)/2] = a
				holdPrint(t, l)
			}
		}
	}
	if s, e := Print(list(2000)); s != text(2000) || e != api.OK {
		t.Error("2,000 answers:", len(s), e)
	}
	for _, n := range tooLong {
		l := slices.Repeat([]int{3}, n)
		if s, e := Print(l); s != "" || e != api.ErrMany {
			t.Error(n, "answers:", s, e)
		}
		// What is too long is ErrMany, also if an answer in it is none.
		for _, a := range noAnswers {
			for _, at := range []int{0, n / 2, 1999, 2000, n - 1} {
				l := slices.Clone(l)
				l[at] = a
				if s, e := Print(l); s != "" || e != api.ErrMany {
					t.Error(n, "answers with", a, "at", at, ":", s, e)
				}
			}
		}
	}
}

// The elements between a slice's length and its capacity do not matter (R4).
func TestPrintReadsNoFurther(t *testing.T) {
	l := []int{1, 2, 3, 4, 0}
	for n := range 4 {
		if s, e := Print(l[:n]); s != "olf"[:n] || e != api.OK {
			t.Error(n, s, e)
		}
	}
	if s, e := Print(make([]int, 5000)[:0]); s != "" || e != api.OK {
		t.Error(s, e)
	}
	if !slices.Equal(l, []int{1, 2, 3, 4, 0}) {
		t.Error(l)
	}
}

// P6.2

func TestNew(t *testing.T) {
	s, p := New(), new(plan)
	if s == nil {
		t.Fatal("New returns nil")
	}
	has(t, s, p)
	goesOn(t, s, p)
	adds(t, s, p, "fl")
	has(t, s, p)
	goesOn(t, s, p)
}

func TestNewSourcesAreIndependent(t *testing.T) {
	a, p := made(t, "lf")
	b, q := New(), new(plan)
	has(t, b, q)
	adds(t, b, q, "o")
	takes(t, a, p, 1)
	has(t, a, p)
	has(t, b, q)
}

func TestCopy(t *testing.T) {
	for _, n := range lengths {
		for _, taken := range []int{0, 1, 2, n / 2, n, n + 1} {
			s, p := made(t, text(n))
			takes(t, s, p, taken)
			c, q := s.Copy(), slices.Clone(*p)
			if c == nil || c == s {
				t.Fatal("the copy of", n, "is", c)
			}
			has(t, c, &q)
			has(t, s, p)
			has(t, c.Copy(), &q)
			// The copy goes on as the source would, with as much room.
			adds(t, c, &q, strings.Repeat("f", 2000-len(q)), "l")
			has(t, c, &q)
			goesOn(t, c, &q)
			has(t, s, p)
		}
	}
}

func TestCopyIsIndependent(t *testing.T) {
	for name, change := range map[string]func(s *Source, p *plan){
		"Add":      func(s *Source, p *plan) { adds(t, s, p, "olf") },
		"Next":     func(s *Source, p *plan) { takes(t, s, p, 1) },
		"all":      func(s *Source, p *plan) { takes(t, s, p, 5) },
		"Next Add": func(s *Source, p *plan) { takes(t, s, p, 2); adds(t, s, p, "oo", "ll") },
	} {
		for _, changesCopy := range []bool{false, true} {
			changed, p := made(t, "lfofl")
			takes(t, changed, p, 1)
			left, q := changed.Copy(), slices.Clone(*p)
			if changesCopy {
				changed, left = left, changed
			}
			if change(changed, p); slices.Equal(*p, q) {
				t.Error(name, "changes nothing")
			}
			has(t, changed, p)
			has(t, left, &q)
			// Each goes on, behind the other's back.
			adds(t, changed, p, "fff")
			adds(t, left, &q, "ooo")
			has(t, changed, p)
			has(t, left, &q)
			goesOn(t, changed, p)
			goesOn(t, left, &q)
		}
	}
}

// P6.3

func TestExamplesOfSources(t *testing.T) {
	s := New()
	if e := s.Add("lf"); e != api.OK || s.Left() != 2 || !slices.Equal(s.Peek(5), []int{2, 3}) {
		t.Error(e, s.Left(), s.Peek(5))
	}
	if a := s.Next(); a != api.AnsLater || s.Left() != 1 {
		t.Error(a, s.Left())
	}
	if e := s.Add("o"); e != api.OK {
		t.Error(e)
	}
	for i, want := range []int{api.AnsFail, api.AnsOK, api.AnsOK} {
		if a := s.Next(); a != want {
			t.Error(i, a, want)
		}
	}
	if n := s.Left(); n != 0 {
		t.Error(n)
	}
	for _, x := range []struct {
		text string
		e    api.Errno
	}{{"olx", api.ErrForm}, {strings.Repeat("o", 2001), api.ErrMany}, {"", api.OK}} {
		if e := s.Add(x.text); e != x.e || s.Left() != 0 {
			t.Error(len(x.text), e, s.Left())
		}
	}
}

func TestAddOfShortTexts(t *testing.T) {
	short("olfx", 4, func(text string) {
		for _, before := range []string{"", "f", "lo"} {
			s, p := made(t, before)
			adds(t, s, p, text)
			has(t, s, p)
			goesOn(t, s, p)
		}
	})
}

// The error of the text comes first, also where there is no room for it.
func TestAddRefusesTexts(t *testing.T) {
	for _, n := range []int{0, 1, 1999, 2000} {
		s, p := made(t, text(n))
		for _, wrong := range noLetters {
			for _, length := range []int{len(wrong), 4, 1999, 2000} {
				for _, x := range spoilt(text(length), wrong) {
					if e := s.Add(x); e != api.ErrForm {
						t.Errorf("%d bytes with %q, behind %d: %d", len(x), wrong, n, e)
					}
				}
			}
			for _, x := range spoilt(text(2001), wrong) {
				if e := s.Add(x); e != api.ErrMany {
					t.Errorf("%d bytes with %q, behind %d: %d", len(x), wrong, n, e)
				}
			}
		}
		for _, length := range tooLong {
			if e := s.Add(text(length)); e != api.ErrMany {
				t.Error(length, "letters, behind", n, ":", e)
			}
		}
		has(t, s, p)
		goesOn(t, s, p)
	}
}

// P6.4

func TestNextOfSourcesThatAreUsedUp(t *testing.T) {
	for _, n := range lengths {
		s, p := made(t, strings.Repeat("f", n))
		takes(t, s, p, n)
		for range 5 {
			if a := s.Next(); a != api.AnsOK || s.Left() != 0 || len(s.Peek(1)) != 0 {
				t.Error(n, a, s.Left(), s.Peek(1))
			}
		}
		// An answer that was made up takes no place.
		adds(t, s, p, text(2000))
		has(t, s, p)
		goesOn(t, s, p)
	}
}

func TestNextRemovesTheFirst(t *testing.T) {
	s, p := made(t, text(50))
	for range 53 {
		takes(t, s, p, 1)
		has(t, s, p)
	}
}

// P6.5

func TestLeftAndPeek(t *testing.T) {
	for _, n := range lengths {
		s, p := made(t, text(n))
		has(t, s, p)
		takes(t, s, p, n/3)
		has(t, s, p)
	}
	s, _ := made(t, "lfo")
	for n, want := range map[int][]int{math.MinInt: nil, -1: nil, 0: nil, 1: {2}, 2: {2, 3}, 3: {2, 3, 1}, 4: {2, 3, 1}, math.MaxInt: {2, 3, 1}} {
		if l := s.Peek(n); !slices.Equal(l, want) {
			t.Error("Peek", n, l, "want", want)
		}
	}
}

// P6.6

func TestOrder(t *testing.T) {
	// However a text is cut, and whatever is taken between, its answers come one behind the other.
	for _, part := range []int{1, 2, 3, 7, 64, 999, 1000, 1999, 2000} {
		for _, take := range []int{0, 1, part / 2} {
			s, p := New(), new(plan)
			var got []int
			for rest := text(2000); rest != ""; {
				n := min(part, len(rest))
				adds(t, s, p, rest[:n])
				rest = rest[n:]
				for range min(take, s.Left()) {
					got = append(got, s.Next())
				}
			}
			for range s.Left() {
				got = append(got, s.Next())
			}
			if !slices.Equal(got, list(2000)) {
				t.Error("parts of", part, "of which", take, "are taken at once: the answers come in another order")
			}
			for range 3 {
				if a := s.Next(); a != api.AnsOK {
					t.Error("behind the last one:", a)
				}
			}
		}
	}
}

// P6.7 and G8

func TestTexts(t *testing.T) {
	holds := func(s string) {
		l, e := Parse(s)
		back, f := Print(l)
		if e != api.OK || f != api.OK || back != s {
			t.Errorf("%.40q is read, and written as %.40q: %d, %d", s, back, e, f)
		}
		again, e := Parse(back)
		if !slices.Equal(again, l) || e != api.OK {
			t.Errorf("%v is written, and read as %v: %d", l, again, e)
		}
	}
	short("olf", 7, holds)
	for _, n := range lengths {
		holds(text(n))
	}
}

func TestTextOfTwoLists(t *testing.T) {
	holds := func(a, b []int) {
		s, e := Print(a)
		u, f := Print(b)
		both, g := Print(slices.Concat(a, b))
		if e != api.OK || f != api.OK || g != api.OK || both != s+u {
			t.Errorf("%d and %d answers: the text of both is %.40q", len(a), len(b), both)
		}
	}
	short("olf", 3, func(a string) {
		short("olf", 3, func(b string) {
			l, _ := read(a)
			m, _ := read(b)
			holds(l, m)
		})
	})
	for _, n := range lengths {
		holds(list(n), list(2000-n))
	}
	for _, n := range []int{1, 1000, 2000} {
		if s, e := Print(slices.Concat(list(n), list(2001-n))); s != "" || e != api.ErrMany {
			t.Error("two lists that are too long together:", len(s), e)
		}
	}
}

// P6.8

func TestRoom(t *testing.T) {
	for _, n := range []int{0, 1, 2, 1000, 1998, 1999, 2000} {
		for _, taken := range []int{0, 1, 2, n / 2, n, n + 1} {
			for _, over := range []int{-1, 0, 1, 2, 500} {
				s, p := made(t, text(n))
				takes(t, s, p, taken)
				room := 2000 - len(*p)
				if room+over < 0 {
					continue
				}
				want := api.OK
				if over > 0 {
					want = api.ErrMany
				}
				if e := s.Add(strings.Repeat("l", room+over)); e != want {
					t.Error("Add of", room+over, "behind", len(*p), ":", e)
				}
				p.add(strings.Repeat("l", room+over))
				has(t, s, p)
				goesOn(t, s, p)
			}
		}
	}
}

func TestTakingMakesRoom(t *testing.T) {
	s, p := made(t, text(2000))
	for i := range 4100 {
		if e := s.Add("f"); e != api.ErrMany {
			t.Fatal(i, "Add to a full source:", e)
		}
		takes(t, s, p, 1)
		adds(t, s, p, "olf"[i%3:i%3+1])
	}
	has(t, s, p)
	if e := s.Add(""); e != api.OK {
		t.Error("there is room for no letters:", e)
	}
	goesOn(t, s, p)
}

// All short sequences of calls, from sources with few answers and from such as are nearly full.
func TestSequences(t *testing.T) {
	changes := []func(s *Source, p *plan) *Source{
		func(s *Source, p *plan) *Source { adds(t, s, p, "f"); return s },
		func(s *Source, p *plan) *Source { adds(t, s, p, "lo"); return s },
		func(s *Source, p *plan) *Source { adds(t, s, p, ""); return s },
		func(s *Source, p *plan) *Source { adds(t, s, p, "ox"); return s },
		func(s *Source, p *plan) *Source { takes(t, s, p, 1); return s },
		func(s *Source, p *plan) *Source { takes(t, s, p, 3); return s },
		func(s *Source, p *plan) *Source { clear(s.Peek(2)); return s },
		func(s *Source, p *plan) *Source { c := s.Copy(); s.Next(); s.Add("o"); return c },
	}
	for _, start := range []struct{ answers, calls int }{{0, 5}, {3, 5}, {1997, 3}, {1999, 3}} {
		all := 1
		for range start.calls {
			all *= len(changes)
		}
		for n := range all {
			s, p := made(t, text(start.answers))
			for range start.calls {
				s = changes[n%len(changes)](s, p)
				n /= len(changes)
			}
			if s.Left() != len(*p) || !slices.Equal(s.Peek(2000), *p) {
				t.Fatalf("%v, %d: %d left; want %d", start, n, s.Left(), len(*p))
			}
		}
	}
}

func TestQuestionsAndRefusedCallsChangeNothing(t *testing.T) {
	for _, n := range []int{0, 1, 3, 1999, 2000} {
		s, p := made(t, text(n))
		for range 3 {
			s.Left()
			for _, count := range counts {
				s.Peek(count)
			}
			s.Copy().Next()
			for _, x := range append(slices.Clone(noLetters), text(2001), "olx", "xlo") {
				if e := s.Add(x); e == api.OK {
					t.Errorf("Add(%.40q) = %d", x, e)
				}
			}
			has(t, s, p)
		}
		goesOn(t, s, p)
	}
}

// R2

func TestSourcesThatAreNotValid(t *testing.T) {
	for name, s := range map[string]*Source{"nil": nil, "zero": {}, "new": new(Source)} {
		for range 2 {
			// ErrNil comes before what is wrong with the text.
			for _, x := range []string{"", "o", "olf", "x", text(2000), text(2001), strings.Repeat("x", 2001)} {
				if e := s.Add(x); e != api.ErrNil {
					t.Error(name, "Add", len(x), e)
				}
			}
			if a := s.Next(); a != 0 {
				t.Error(name, "Next", a)
			}
			if n := s.Left(); n != 0 {
				t.Error(name, "Left", n)
			}
			for _, n := range counts {
				if l := s.Peek(n); l != nil {
					t.Error(name, "Peek", n, l)
				}
			}
			if c := s.Copy(); c != nil {
				t.Error(name, "Copy", c)
			}
		}
	}
}

// R4

func TestResultsAreNewMemory(t *testing.T) {
	s, p := made(t, text(10))
	for _, n := range []int{1, 5, 10, 11} {
		l, m := s.Peek(n), s.Peek(n)
		before := slices.Clone(m)
		clear(l[:cap(l)])
		_ = append(l[:1], 3, 3, 3)
		if !slices.Equal(m, before) {
			t.Error("Peek", n, m, before)
		}
		has(t, s, p)
	}
	clear(s.Copy().Peek(10))
	has(t, s, p)

	l, _ := Parse("olf")
	m, _ := Parse("olf")
	clear(l[:cap(l)])
	if again, _ := Parse("olf"); !slices.Equal(m, []int{1, 2, 3}) || !slices.Equal(again, m) {
		t.Error("Parse", m, again)
	}
}

// What an assignment of the struct made, and the source, do not write to the same answers.
func TestAssignedSources(t *testing.T) {
	s, p := made(t, "lfo")
	adds(t, s, p, "l", "f")
	x := *s
	q := slices.Clone(*p)
	adds(t, s, p, "f")
	adds(t, &x, &q, "o")
	has(t, s, p)
	has(t, &x, &q)
}

// R8

func TestEqualCallsReturnEqualResults(t *testing.T) {
	for _, start := range []string{"", "lf", text(1999), text(2000)} {
		a, p := made(t, start)
		b, q := made(t, start)
		for _, x := range []string{"o", "lx", "", text(2001), "ff"} {
			if e, f := a.Add(x), b.Add(x); e != f {
				t.Error("Add", e, f)
			}
			p.add(x)
			q.add(x)
			if m, n := a.Next(), b.Next(); m != n {
				t.Error("Next", m, n)
			}
			p.next()
			q.next()
			has(t, a, p)
			has(t, b, q)
		}
	}
}
