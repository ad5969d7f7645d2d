package fields

import (
	"fmt"
	"math"
	"math/big"
	"regexp"
	"slices"
	"strings"
	"testing"

	"estray/api"
)

const last = api.MaxGen

var (
	// none is the zero reference.
	none = api.Ref{}
	// someSlots are the first slots, the last ones, and some between.
	someSlots = []int{0, 1, 3, 9, 10, 100, 254, 255}
	// noSlots are numbers of no slot; some of them would be slots in fewer bits.
	noSlots = []int{math.MinInt, math.MinInt + 3, -1 << 32, -256, -253, -1, 256, 257, 259, 1000, 1 << 16, 1 << 32, 1<<32 + 3, math.MaxInt}
	// someGens are the first generations, the last ones, and some between.
	someGens = []uint32{1, 2, 7, 9, 10, 255, 256, 1<<16 + 1, 1 << 31, last - 1, last}
	// noCounts are numbers of fields that no object has; some of them would be such in fewer bits.
	noCounts = []int{math.MinInt, -1 << 32, -4, -1, 5, 6, 255, 256, 257, 1 << 32, 1<<32 + 1, math.MaxInt}
	// indexes are some of fields, and some of none.
	indexes = []int{math.MinInt, -1 << 32, -4, -1, 0, 1, 2, 3, 4, 5, 256, 1 << 32, 1<<32 + 1, math.MaxInt}
)

// ref returns a reference.
func ref(slot int, gen uint32) api.Ref { return api.Ref{Slot: slot, Gen: gen} }

// object returns an object with these fields.
func object(l ...api.Ref) Object {
	o := Object{N: len(l)}
	copy(o.Fields[:], l)
	return o
}

// possibleRefs returns references to all slots, with some of the generations.
func possibleRefs() []api.Ref {
	var all []api.Ref
	for slot := range 256 {
		for _, gen := range someGens {
			all = append(all, ref(slot, gen))
		}
	}
	return all
}

// wrongRefs returns references that are neither none nor possible: with a part that is wrong, or both.
func wrongRefs() []api.Ref {
	var all []api.Ref
	for _, slot := range noSlots {
		all = append(all, ref(slot, 0))
		for _, gen := range someGens {
			all = append(all, ref(slot, gen))
		}
	}
	// The slot 0 with the generation 0 is none.
	for slot := 1; slot < 256; slot++ {
		all = append(all, ref(slot, 0))
	}
	return all
}

// fewRefs are references of all sorts, which the objects of long tests have.
var fewRefs = []api.Ref{none, ref(0, 1), ref(255, last), ref(3, 7), ref(0, last), ref(7, 0), ref(256, 1), ref(-1, 1), ref(1<<32, 5)}

// anyObjects yields objects, possible or not, with all choices of few references in their four fields.
func anyObjects(yield func(o Object) bool) {
	for _, n := range []int{math.MinInt, -1, 0, 1, 2, 3, 4, 5, 1 << 32, math.MaxInt} {
		for choice := range pow(len(fewRefs), 4) {
			o := Object{N: n}
			for i := range o.Fields {
				o.Fields[i] = fewRefs[choice%len(fewRefs)]
				choice /= len(fewRefs)
			}
			h := o
			h.Handle = true
			if !yield(o) || !yield(h) {
				return
			}
		}
	}
}

// pow is a number to a power.
func pow(base, exponent int) int {
	p := 1
	for range exponent {
		p *= base
	}
	return p
}

// The plan: the chapter's words, written out a second time.

// planRef reports whether a reference is none or possible.
func planRef(r api.Ref) bool {
	isSlot := uint64(int64(r.Slot)) <= 255
	isGen := r.Gen >= 1
	return r.Slot == 0 && r.Gen == 0 || isSlot && isGen
}

// planPossible reports whether an object is possible.
func planPossible(o Object) bool {
	if !slices.Contains([]int{0, 1, 2, 3, 4}, o.N) {
		return false
	}
	if o.Handle && o.N > 0 {
		return false
	}
	for i := 3; i >= 0; i-- {
		if !planRef(o.Fields[i]) {
			return false
		}
		if i+1 > o.N && (o.Fields[i].Slot != 0 || o.Fields[i].Gen != 0) {
			return false
		}
	}
	return true
}

// planRefs returns those of the four fields that are not none.
func planRefs(o Object) []api.Ref {
	return slices.DeleteFunc([]api.Ref{o.Fields[0], o.Fields[1], o.Fields[2], o.Fields[3]}, func(r api.Ref) bool { return r.Slot == 0 && r.Gen == 0 })
}

// planRefText is the text of a reference that is not wrong.
func planRefText(r api.Ref) string {
	if r.Gen == 0 {
		return "-"
	}
	return fmt.Sprintf("%d.%d", r.Slot, r.Gen)
}

// planText is the text of a possible object.
func planText(o Object) string {
	if o.Handle {
		return "handle"
	}
	parts := []string{"object"}
	for i := range o.N {
		parts = append(parts, planRefText(o.Fields[i]))
	}
	return strings.Join(parts, " ")
}

// objectForm is the form of the text of an object that is no handle.
var objectForm = regexp.MustCompile(`\Aobject((?: (?:-|(?:0|[1-9][0-9]*)\.[1-9][0-9]*))*)\z`)

// planParse takes a text apart; false: it is not the text of a possible object.
func planParse(s string) (Object, bool) {
	if s == "handle" {
		return Object{Handle: true}, true
	}
	found := objectForm.FindStringSubmatch(s)
	if found == nil {
		return Object{}, false
	}
	var refs []api.Ref
	for _, word := range strings.Fields(found[1]) {
		if word == "-" {
			refs = append(refs, none)
			continue
		}
		parts := strings.Split(word, ".")
		slot, _ := new(big.Int).SetString(parts[0], 10)
		gen, _ := new(big.Int).SetString(parts[1], 10)
		if slot.Cmp(big.NewInt(255)) > 0 || gen.Cmp(big.NewInt(4294967295)) > 0 {
			return Object{}, false
		}
		refs = append(refs, ref(int(slot.Int64()), uint32(gen.Int64())))
	}
	if len(refs) > 4 {
		return Object{}, false
	}
	return object(refs...), true
}

// What follows calls the functions, and holds their results against the plan.

func news(t *testing.T, n int, handle bool) {
	t.Helper()
	want, e := Object{}, api.ErrArg
	if n >= 0 && n <= 4 && (!handle || n == 0) {
		want, e = Object{N: n, Handle: handle}, api.OK
	}
	if o, f := New(n, handle); o != want || f != e {
		t.Fatalf("New(%d, %v) = %v, %d; want %v, %d", n, handle, o, f, want, e)
	}
}

func checks(t *testing.T, o Object) {
	t.Helper()
	want := api.ErrArg
	if planPossible(o) {
		want = api.OK
	}
	if e := Check(o); e != want {
		t.Fatalf("Check(%v) = %d; want %d", o, e, want)
	}
}

func gets(t *testing.T, o Object, i int) {
	t.Helper()
	want, e := none, api.OK
	switch {
	case !planPossible(o):
		e = api.ErrArg
	case i < 0 || i > o.N-1:
		e = api.ErrRange
	default:
		want = o.Fields[i]
	}
	if r, f := Get(o, i); r != want || f != e {
		t.Fatalf("Get(%v, %d) = %v, %d; want %v, %d", o, i, r, f, want, e)
	}
}

func sets(t *testing.T, o Object, i int, r api.Ref) {
	t.Helper()
	before := o
	want, wantWas, e := Object{}, none, api.OK
	switch {
	case !planPossible(o) || !planRef(r):
		e = api.ErrArg
	case i < 0 || i > o.N-1:
		e = api.ErrRange
	default:
		want, wantWas = o, o.Fields[i]
		want.Fields[i] = r
	}
	if x, was, f := Set(o, i, r); x != want || was != wantWas || f != e {
		t.Fatalf("Set(%v, %d, %v) = %v, %v, %d; want %v, %v, %d", o, i, r, x, was, f, want, wantWas, e)
	}
	if o != before {
		t.Fatalf("Set(%v, %d, %v) has changed the object to %v", before, i, r, o)
	}
}

func refs(t *testing.T, o Object) {
	t.Helper()
	if l, want := Refs(o), planRefs(o); !slices.Equal(l, want) {
		t.Fatalf("Refs(%v) = %v; want %v", o, l, want)
	}
}

func writes(t *testing.T, o Object) {
	t.Helper()
	want, e := "", api.ErrArg
	if planPossible(o) {
		want, e = planText(o), api.OK
	}
	if s, f := Text(o); s != want || f != e {
		t.Fatalf("Text(%v) = %q, %d; want %q, %d", o, s, f, want, e)
	}
}

func parses(t *testing.T, s string) {
	t.Helper()
	want, e := Object{}, api.ErrForm
	if o, is := planParse(s); is {
		want, e = o, api.OK
	}
	if o, f := Parse(s); o != want || f != e {
		t.Fatalf("Parse(%q) = %v, %d; want %v, %d", s, o, f, want, e)
	}
}

// P13.1

func TestNew(t *testing.T) {
	for _, handle := range []bool{false, true} {
		for n := -300; n <= 300; n++ {
			news(t, n, handle)
		}
		for _, n := range noCounts {
			news(t, n, handle)
		}
	}
	for n := range 5 {
		o, e := New(n, false)
		if o != (Object{N: n}) || e != api.OK || Check(o) != api.OK {
			t.Error(n, o, e)
		}
	}
	if o, e := New(0, true); o != (Object{Handle: true}) || e != api.OK || Check(o) != api.OK {
		t.Error(o, e)
	}
}

func TestCheck(t *testing.T) {
	for o := range anyObjects {
		checks(t, o)
	}
	for _, n := range noCounts {
		checks(t, Object{N: n})
		checks(t, Object{N: n, Handle: true})
	}
	for n := range 5 {
		checks(t, Object{N: n, Handle: true})
	}
}

// TestCheckFields has all sorts of references in each of the fields, also in those from N on.
func TestCheckFields(t *testing.T) {
	for _, r := range slices.Concat(possibleRefs(), wrongRefs(), []api.Ref{none}) {
		for n := range 5 {
			for i := range 4 {
				o := Object{N: n}
				o.Fields[i] = r
				checks(t, o)
				o.Handle = true
				checks(t, o)
			}
		}
	}
}

// P13.2

func TestGet(t *testing.T) {
	for o := range anyObjects {
		for i := -1; i <= 4; i++ {
			gets(t, o, i)
		}
	}
	four := object(ref(0, 1), none, ref(255, last), ref(3, 7))
	for n := range 5 {
		o := object(four.Fields[:n]...)
		for _, i := range indexes {
			gets(t, o, i)
		}
	}
	for _, i := range indexes {
		gets(t, Object{Handle: true}, i)
		gets(t, Object{N: 1, Handle: true}, i)
		gets(t, Object{N: 5}, i)
	}
}

func TestSet(t *testing.T) {
	for o := range anyObjects {
		for i := -1; i <= 4; i++ {
			sets(t, o, i, none)
			sets(t, o, i, ref(9, 8))
		}
		sets(t, o, 1, ref(256, 1))
		sets(t, o, 4, ref(9, 0))
	}
}

// TestSetRefs sets all sorts of references, in fields that exist and in ones that do not.
func TestSetRefs(t *testing.T) {
	four := object(ref(0, 1), none, ref(255, last), ref(3, 7))
	for _, r := range slices.Concat(possibleRefs(), wrongRefs(), []api.Ref{none}) {
		for n := range 5 {
			o := object(four.Fields[:n]...)
			for _, i := range indexes {
				sets(t, o, i, r)
			}
			o.Handle = true
			sets(t, o, 0, r)
		}
	}
}

// TestSetErrors has calls for which both errors apply: ErrArg is the first one.
func TestSetErrors(t *testing.T) {
	o := object(ref(3, 7))
	for _, i := range []int{-1, 1, 4, math.MinInt, math.MaxInt} {
		if x, was, e := Set(o, i, ref(256, 1)); x != (Object{}) || was != none || e != api.ErrArg {
			t.Error(i, x, was, e)
		}
		if x, was, e := Set(Object{N: 5}, i, none); x != (Object{}) || was != none || e != api.ErrArg {
			t.Error(i, x, was, e)
		}
		if r, e := Get(Object{N: -1}, i); r != none || e != api.ErrArg {
			t.Error(i, r, e)
		}
		if x, was, e := Set(o, i, ref(255, 1)); x != (Object{}) || was != none || e != api.ErrRange {
			t.Error(i, x, was, e)
		}
		if r, e := Get(o, i); r != none || e != api.ErrRange {
			t.Error(i, r, e)
		}
	}
}

// P13.3

func TestRefs(t *testing.T) {
	for o := range anyObjects {
		refs(t, o)
	}
	for _, r := range slices.Concat(possibleRefs(), wrongRefs(), []api.Ref{none}) {
		for i := range 4 {
			o := Object{N: 2}
			o.Fields[i] = r
			refs(t, o)
		}
	}
	// Equal ones are all told, and so are those from N on.
	same := Object{Fields: [api.MaxFields]api.Ref{ref(1, 1), ref(1, 1), ref(1, 1), ref(1, 1)}}
	if l := Refs(same); !slices.Equal(l, []api.Ref{ref(1, 1), ref(1, 1), ref(1, 1), ref(1, 1)}) {
		t.Error(l)
	}
}

// P13.4

func TestText(t *testing.T) {
	for o := range anyObjects {
		writes(t, o)
	}
	for _, r := range slices.Concat(possibleRefs(), wrongRefs(), []api.Ref{none}) {
		for n := range 5 {
			for i := range 4 {
				o := Object{N: n}
				o.Fields[i] = r
				writes(t, o)
			}
		}
	}
}

func TestParse(t *testing.T) {
	for o := range anyObjects {
		if planPossible(o) {
			parses(t, planText(o))
		}
	}
	for _, r := range possibleRefs() {
		for n := range 5 {
			for i := range n {
				o := Object{N: n}
				o.Fields[i] = r
				parses(t, planText(o))
			}
		}
	}
}

// TestParseParts puts all sorts of texts where a slot, a generation or a field stands.
func TestParseParts(t *testing.T) {
	numbers := []string{"", "0", "1", "9", "10", "00", "01", "001", "255", "256", "0255", "257", "1000", "4294967294", "4294967295", "4294967296", "4294967297", "04294967295",
		"9223372036854775807", "9223372036854775808", "18446744073709551615", "18446744073709551616", "18446744073709551617", "340282366920938463463374607431768211457",
		"-1", "-0", "+1", "+0", " 1", "1 ", "1_0", "0x1", "1e0", "1.", "-", "\u0661", "\xff", "1\n", "a", strings.Repeat("1", 1000), strings.Repeat("0", 1000) + "1"}
	for _, slot := range numbers {
		for _, gen := range numbers {
			for _, sign := range []string{".", "", ":", "..", " ", "-"} {
				word := slot + sign + gen
				for _, s := range []string{"object " + word, "object - " + word, "object " + word + " 3.7", "object - - - " + word, "object - - - - " + word, "handle " + word, word, "object" + word} {
					parses(t, s)
				}
			}
		}
	}
	for n := range 8 {
		for _, word := range []string{" -", " 0.1", " 255.4294967295", "  -", " --", " 1.0", " 0.0", " .", " ", "-", " 0.1.1"} {
			for _, end := range []string{"", " ", "\n", "\x00", " -", " 1.1", "."} {
				for _, begin := range []string{"object", "handle", "Object", " object", "objec", "objects", "", "-", "\xff"} {
					parses(t, begin+strings.Repeat(word, n)+end)
				}
			}
		}
	}
}

// P13.5

func TestFields(t *testing.T) {
	values := []api.Ref{none, ref(0, 1), ref(255, last), ref(3, 7)}
	for o := range anyObjects {
		if !planPossible(o) {
			continue
		}
		for i := range o.N {
			for _, r := range values {
				x, was, e := Set(o, i, r)
				if e != api.OK {
					t.Fatal(o, i, r, e)
				}
				for j := range o.N {
					got, e := Get(x, j)
					if want := o.Fields[j]; e != api.OK || j != i && got != want || j == i && got != r {
						t.Fatal(o, i, r, j, got, e)
					}
				}
				if back, again, e := Set(x, i, was); back != o || again != r || e != api.OK {
					t.Fatal(o, i, r, back, again, e)
				}
			}
		}
	}
}

// TestLong sets fields many times, by a rule, and holds the object against a list of references.
func TestLong(t *testing.T) {
	for n := range 5 {
		o, e := New(n, false)
		if e != api.OK {
			t.Fatal(n, e)
		}
		list := make([]api.Ref, n)
		turn := uint64(n) + 1
		for range 20000 {
			turn = turn*6364136223846793005 + 1442695040888963407
			i, r := int(turn>>33%6)-1, ref(int(turn>>40%260)-2, uint32(turn>>50%4))
			x, was, e := Set(o, i, r)
			isRef := r == none || r.Slot >= 0 && r.Slot < 256 && r.Gen > 0
			if is := isRef && i >= 0 && i < n; is != (e == api.OK) {
				t.Fatal(o, i, r, e)
			}
			if e == api.OK {
				if was != list[i] {
					t.Fatal(o, i, r, was, list)
				}
				o, list[i] = x, r
			}
			if o != object(list...) || o.N != n {
				t.Fatal(o, list)
			}
		}
	}
}

// P13.6

func TestTexts(t *testing.T) {
	of := map[string]Object{}
	for o := range anyObjects {
		s, e := Text(o)
		if (e == api.OK) != planPossible(o) {
			t.Fatal(o, s, e)
		}
		if e != api.OK {
			continue
		}
		if other, is := of[s]; is {
			t.Fatal(s, o, other)
		}
		of[s] = o
		if x, e := Parse(s); x != o || e != api.OK {
			t.Fatal(s, x, e)
		}
	}
}

// TestOneByte changes, adds and takes away single bytes of texts.
func TestOneByte(t *testing.T) {
	for _, s := range []string{"handle", "object", "object -", "object 0.1", "object 255.4294967295", "object - 3.7 - 10.20", "object 1.1 2.2 3.3 4.4"} {
		for i := range len(s) + 1 {
			for b := range 256 {
				parses(t, s[:i]+string([]byte{byte(b)})+s[i:])
				if i < len(s) {
					parses(t, s[:i]+string([]byte{byte(b)})+s[i+1:])
				}
			}
			if i < len(s) {
				parses(t, s[:i]+s[i+1:])
			}
			parses(t, s[:i])
			parses(t, s[i:])
		}
	}
}

// TestShortTexts reads all short texts of the signs that matter, alone and behind the words.
func TestShortTexts(t *testing.T) {
	signs := []string{" ", "-", ".", "0", "1", "25", "256"}
	for length := range 7 {
		for choice := range pow(len(signs), length) {
			s := ""
			for range length {
				s += signs[choice%len(signs)]
				choice /= len(signs)
			}
			parses(t, "object"+s)
			if length < 5 {
				parses(t, s)
				parses(t, "handle"+s)
				parses(t, "object 0.1"+s)
				parses(t, "object - - -"+s)
			}
		}
	}
	for a := range 256 {
		parses(t, string([]byte{byte(a)}))
		for b := range 256 {
			parses(t, string([]byte{byte(a), byte(b)}))
		}
	}
}

// TestLongTexts reads texts that are much longer than those of objects.
func TestLongTexts(t *testing.T) {
	for _, part := range []string{" -", " ", "1", ".", "-", " 0.1", " object", "\xff"} {
		for _, begin := range []string{"", "object", "object ", "object 0.", "handle"} {
			if o, e := Parse(begin + strings.Repeat(part, 100000)); o != (Object{}) || e != api.ErrForm {
				t.Error(begin, part, o, e)
			}
		}
	}
}

// R4, R8

// TestMemory changes a list that was returned, also behind its length: no other one changes, and equal calls return equal results.
func TestMemory(t *testing.T) {
	for _, o := range []Object{{}, object(ref(1, 1)), object(ref(1, 1), none, ref(2, 2)), object(ref(1, 1), ref(2, 2), ref(3, 3), ref(4, 4))} {
		before, want := o, planRefs(o)
		a, b := Refs(o), Refs(o)
		for i := range a[:cap(a)] {
			a[:cap(a)][i] = ref(9, 9)
		}
		_ = append(a, ref(8, 8))
		if !slices.Equal(b, want) || !slices.Equal(Refs(o), want) || o != before {
			t.Error(o, b, Refs(o))
		}
		s, e := Text(o)
		if again, f := Text(o); again != s || f != e {
			t.Error(o, s, again)
		}
	}
}

// The examples of the chapter.

func TestExamples(t *testing.T) {
	first, e := New(2, false)
	if first != (Object{N: 2}) || e != api.OK {
		t.Fatal(first, e)
	}
	handle, e := New(0, true)
	if !handle.Handle || handle.N != 0 || e != api.OK {
		t.Error(handle, e)
	}
	news(t, 1, true)
	news(t, 5, false)
	o, was, e := Set(first, 1, ref(3, 7))
	if o != object(none, ref(3, 7)) || was != none || e != api.OK {
		t.Fatal(o, was, e)
	}
	for _, x := range []struct {
		i    int
		want api.Ref
		e    api.Errno
	}{{1, ref(3, 7), api.OK}, {0, none, api.OK}, {2, none, api.ErrRange}} {
		if r, e := Get(o, x.i); r != x.want || e != x.e {
			t.Error(x, r, e)
		}
	}
	if x, was, e := Set(o, -1, none); x != (Object{}) || was != none || e != api.ErrRange {
		t.Error(x, was, e)
	}
	if x, was, e := Set(o, 1, none); x != first || was != ref(3, 7) || e != api.OK {
		t.Error(x, was, e)
	}
	if x, was, e := Set(o, 0, ref(256, 1)); x != (Object{}) || was != none || e != api.ErrArg {
		t.Error(x, was, e)
	}
	if l := Refs(o); !slices.Equal(l, []api.Ref{ref(3, 7)}) {
		t.Error(l)
	}
	for _, x := range []struct {
		o    Object
		want string
	}{{o, "object - 3.7"}, {handle, "handle"}, {Object{}, "object"}} {
		if s, e := Text(x.o); s != x.want || e != api.OK {
			t.Error(x, s, e)
		}
	}
	if x, e := Parse("object 0.1"); x != object(ref(0, 1)) || e != api.OK {
		t.Error(x, e)
	}
	for _, s := range []string{"handle 0.1", "object 0.0", "object  -", "object - - - - -"} {
		if x, e := Parse(s); x != (Object{}) || e != api.ErrForm {
			t.Error(s, x, e)
		}
	}
}
