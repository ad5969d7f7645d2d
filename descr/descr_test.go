package descr

import (
	"cmp"
	"fmt"
	"math"
	"math/big"
	"slices"
	"strings"
	"testing"

	"estray/api"
)

const last = api.MaxGen

var (
	// kinds are those of possible names.
	kinds = []int{1, 2, 3}
	// noKinds are those of no possible name; some of them would be kinds in fewer bits.
	noKinds = []int{math.MinInt, -1 << 32, -3, -1, 0, 4, 5, 255, 257, 1<<32 + 1, math.MaxInt}
	// noSlots are slots of no registry; some of them would be slots in fewer bits.
	noSlots = []int{math.MinInt, -1 << 32, -256, -1, 256, 257, 1000, 1 << 32, 1<<32 + 3, math.MaxInt}
	// noIds are numbers that nothing in the outer world has.
	noIds = []int{math.MinInt, -1 << 32, -64, -1, 64, 65, 255, 256, 259, 1 << 32, 1<<32 + 3, math.MaxInt}
	// someGens are the first generations, the last ones, and some between.
	someGens = []uint32{1, 2, 7, 9, 10, 255, 256, 1<<16 + 1, 1 << 31, last - 1, last}
	// anyNums are numbers for every part of what need not be possible.
	anyNums = []int{math.MinInt, -1 << 32, -1, 0, 1, 2, 3, 4, 63, 64, 255, 256, 1 << 32, math.MaxInt}
	// anyGens are numbers for its generation.
	anyGens = []uint32{0, 1, 2, 1 << 31, last - 1, last}
)

// desc returns a descriptor, out a resource of the outer world.
func desc(kind, slot int, gen uint32) api.Desc { return api.Desc{Kind: kind, Slot: slot, Gen: gen} }
func out(kind, id int, gen uint32) api.Outer   { return api.Outer{Kind: kind, Id: id, Gen: gen} }

// descs returns possible descriptors: those of all kinds and slots, with some of the generations.
func descs() []api.Desc {
	var all []api.Desc
	for _, kind := range kinds {
		for slot := range 256 {
			for _, gen := range someGens {
				all = append(all, desc(kind, slot, gen))
			}
		}
	}
	return all
}

// noDescs returns descriptors that are not possible, with each part the only wrong one, and with several wrong ones.
func noDescs() []api.Desc {
	all := []api.Desc{{}}
	for _, gen := range append(slices.Clone(someGens), 0) {
		for _, kind := range noKinds {
			all = append(all, desc(kind, 0, gen), desc(kind, 3, gen), desc(kind, 255, gen), desc(kind, 256, gen), desc(kind, -1, gen))
		}
		for _, slot := range noSlots {
			all = append(all, desc(0, slot, gen), desc(1, slot, gen), desc(2, slot, gen), desc(3, slot, gen), desc(4, slot, gen))
		}
	}
	for _, kind := range kinds {
		for slot := range 256 {
			all = append(all, desc(kind, slot, 0))
		}
	}
	return all
}

// outs returns possible resources of the outer world: those of all kinds and numbers, with some of the generations.
func outs() []api.Outer {
	var all []api.Outer
	for _, kind := range kinds {
		for id := range 64 {
			for _, gen := range someGens {
				all = append(all, out(kind, id, gen))
			}
		}
	}
	return all
}

// noOuts returns resources that are not possible.
func noOuts() []api.Outer {
	all := []api.Outer{{}}
	for _, gen := range append(slices.Clone(someGens), 0) {
		for _, kind := range noKinds {
			all = append(all, out(kind, 0, gen), out(kind, 3, gen), out(kind, 63, gen), out(kind, 64, gen), out(kind, -1, gen))
		}
		for _, id := range noIds {
			all = append(all, out(0, id, gen), out(1, id, gen), out(2, id, gen), out(3, id, gen), out(4, id, gen))
		}
	}
	for _, kind := range kinds {
		for id := range 64 {
			all = append(all, out(kind, id, 0))
		}
	}
	return all
}

// number is Kind 2^40 + Slot 2^32 + Gen, among the integers.
func number(d api.Desc) *big.Int {
	sum := big.NewInt(int64(d.Gen))
	for _, part := range []struct {
		n    int
		bits uint
	}{{d.Kind, 40}, {d.Slot, 32}} {
		sum.Add(sum, new(big.Int).Mul(big.NewInt(int64(part.n)), new(big.Int).Lsh(big.NewInt(1), part.bits)))
	}
	return sum
}

// letter is that of a possible kind.
func letter(kind int) string { return map[int]string{1: "f", 2: "b", 3: "l"}[kind] }

// descText and outText are the texts of what is possible.
func descText(d api.Desc) string { return fmt.Sprintf("%s%d.%d", letter(d.Kind), d.Slot, d.Gen) }
func outText(o api.Outer) string { return fmt.Sprintf("%s%d:%d", letter(o.Kind), o.Id, o.Gen) }

// decimal returns the number whose decimal digits a text is, without zeros ahead of other digits, if it is from least to most.
func decimal(s string, least, most int64) (int64, bool) {
	if s == "" || strings.Trim(s, "0123456789") != "" || s[0] == '0' && s != "0" {
		return 0, false
	}
	n, _ := new(big.Int).SetString(s, 10)
	return n.Int64(), n.Cmp(big.NewInt(least)) >= 0 && n.Cmp(big.NewInt(most)) <= 0
}

// named takes a text apart as the chapter describes it; false: nothing possible has this text.
func named(s, sign string, lastPlace int64) (kind, place int, gen uint32, is bool) {
	if s == "" {
		return 0, 0, 0, false
	}
	kind = map[byte]int{'f': 1, 'b': 2, 'l': 3}[s[0]]
	parts := strings.Split(s[1:], sign)
	if kind == 0 || len(parts) != 2 {
		return 0, 0, 0, false
	}
	p, isPlace := decimal(parts[0], 0, lastPlace)
	g, isGen := decimal(parts[1], 1, int64(last))
	if !isPlace || !isGen {
		return 0, 0, 0, false
	}
	return kind, int(p), uint32(g), true
}

// holdTexts checks Parse and ParseOuter on a text, possible or not.
func holdTexts(t *testing.T, s string) {
	t.Helper()
	d, e := Parse(s)
	wantD, wantE := api.Desc{}, api.ErrForm
	if kind, slot, gen, is := named(s, ".", 255); is {
		wantD, wantE = desc(kind, slot, gen), api.OK
	}
	if d != wantD || e != wantE {
		t.Errorf("Parse(%q) = %v, %d; want %v, %d", s, d, e, wantD, wantE)
	}
	o, e := ParseOuter(s)
	wantO, wantE := api.Outer{}, api.ErrForm
	if kind, id, gen, is := named(s, ":", 63); is {
		wantO, wantE = out(kind, id, gen), api.OK
	}
	if o != wantO || e != wantE {
		t.Errorf("ParseOuter(%q) = %v, %d; want %v, %d", s, o, e, wantO, wantE)
	}
}

// neighbours returns the texts that differ from s by one byte: left out, put in, or replaced.
func neighbours(s string) []string {
	var all []string
	for i := range len(s) + 1 {
		for b := range 256 {
			all = append(all, s[:i]+string([]byte{byte(b)})+s[i:])
			if i < len(s) {
				all = append(all, s[:i]+string([]byte{byte(b)})+s[i+1:])
			}
		}
		if i < len(s) {
			all = append(all, s[:i]+s[i+1:])
		}
	}
	return all
}

// short calls f with all texts of at most n of the letters.
func short(letters string, n int, f func(string)) {
	texts := []string{""}
	for range n + 1 {
		var longer []string
		for _, s := range texts {
			f(s)
			for _, l := range letters {
				longer = append(longer, s+string(l))
			}
		}
		texts = longer
	}
}

// P5.1

func TestDescriptorsThatArePossible(t *testing.T) {
	for _, d := range descs() {
		if e := Check(d); e != api.OK {
			t.Errorf("Check(%v) = %d", d, e)
		}
		if n, e := Pack(d); new(big.Int).SetUint64(n).Cmp(number(d)) != 0 || e != api.OK {
			t.Errorf("Pack(%v) = %d, %d; want %v", d, n, e, number(d))
		}
		if s, e := Text(d); s != descText(d) || e != api.OK {
			t.Errorf("Text(%v) = %q, %d", d, s, e)
		}
	}
}

func TestDescriptorsThatAreNotPossible(t *testing.T) {
	for _, d := range noDescs() {
		if e := Check(d); e != api.ErrArg {
			t.Errorf("Check(%v) = %d", d, e)
		}
		if n, e := Pack(d); n != 0 || e != api.ErrArg {
			t.Errorf("Pack(%v) = %d, %d", d, n, e)
		}
		if s, e := Text(d); s != "" || e != api.ErrArg {
			t.Errorf("Text(%v) = %q, %d", d, s, e)
		}
	}
}

func TestExamplesOfPackAndText(t *testing.T) {
	for _, x := range []struct {
		d    api.Desc
		n    uint64
		text string
	}{
		{desc(1, 3, 7), 1112396529671, "f3.7"},
		{desc(3, 255, 4294967295), 4398046511103, "l255.4294967295"},
		{desc(2, 0, 1), 2199023255553, "b0.1"},
		{desc(3, 2, 9), 3307124817929, "l2.9"},
		{desc(1, 0, 1), 1099511627777, "f0.1"},
	} {
		n, e := Pack(x.d)
		text, f := Text(x.d)
		if n != x.n || e != api.OK || text != x.text || f != api.OK {
			t.Error(x, n, e, text, f)
		}
	}
}

// P5.2

func TestUnpackOfNumbers(t *testing.T) {
	for _, d := range descs() {
		if got, e := Unpack(number(d).Uint64()); got != d || e != api.OK {
			t.Errorf("Unpack(%v) = %v, %d; want %v", number(d), got, e, d)
		}
	}
}

// Every pair of a kind and a slot is tried here, also of kinds that there are none of, with 0 and with generations.
func TestUnpackOfAllParts(t *testing.T) {
	for kind := range 10 {
		for slot := range 256 {
			for _, low := range []uint32{0, 1, 2, 1 << 31, last} {
				n := uint64(kind)<<40 + uint64(slot)<<32 + uint64(low)
				want, wantE := desc(kind, slot, low), api.OK
				if kind < 1 || kind > 3 || low == 0 {
					want, wantE = api.Desc{}, api.ErrArg
				}
				if d, e := Unpack(n); d != want || e != wantE {
					t.Errorf("Unpack(%d) = %v, %d; want %v, %d", n, d, e, want, wantE)
				}
			}
		}
	}
}

func TestUnpackOfNumbersOfNoDescriptor(t *testing.T) {
	numbers := []uint64{0, 1, 7, uint64(last), 1 << 32, 255<<32 + 1, 1<<40 - 1, 1 << 40, 1112396529664, 1<<40 + 1<<32, 3<<40 + 255<<32, 1 << 42, 1<<42 + 1, math.MaxInt64, 1 << 63, math.MaxUint64 - 1, math.MaxUint64}
	// A number whose lower bits are those of a descriptor, with one more bit above them.
	for bit := 42; bit < 64; bit++ {
		for _, d := range []api.Desc{desc(1, 3, 7), desc(3, 255, last), desc(2, 0, 1)} {
			numbers = append(numbers, number(d).Uint64()+1<<bit)
		}
	}
	for _, n := range numbers {
		if d, e := Unpack(n); d != (api.Desc{}) || e != api.ErrArg {
			t.Errorf("Unpack(%d) = %v, %d", n, d, e)
		}
	}
}

func TestUnpackBesideNumbers(t *testing.T) {
	for _, x := range []struct {
		n    uint64
		want api.Desc
		e    api.Errno
	}{
		{1112396529671, desc(1, 3, 7), api.OK},
		{1112396529665, desc(1, 3, 1), api.OK},
		{1112396529664, api.Desc{}, api.ErrArg},
		{1112396529663, desc(1, 2, last), api.OK},
		{1 << 40, api.Desc{}, api.ErrArg},
		{1<<40 - 1, api.Desc{}, api.ErrArg},
		{1<<40 + 1, desc(1, 0, 1), api.OK},
		{2<<40 - 1, desc(1, 255, last), api.OK},
		{2 << 40, api.Desc{}, api.ErrArg},
		{2<<40 + 1, desc(2, 0, 1), api.OK},
		{4<<40 - 1, desc(3, 255, last), api.OK},
		{4 << 40, api.Desc{}, api.ErrArg},
		{4<<40 + 1, api.Desc{}, api.ErrArg},
	} {
		if d, e := Unpack(x.n); d != x.want || e != x.e {
			t.Errorf("Unpack(%d) = %v, %d; want %v, %d", x.n, d, e, x.want, x.e)
		}
	}
}

func TestParseOfTexts(t *testing.T) {
	for _, d := range descs() {
		if got, e := Parse(descText(d)); got != d || e != api.OK {
			t.Errorf("Parse(%q) = %v, %d", descText(d), got, e)
		}
	}
}

func TestParseOfTextsOfNoDescriptor(t *testing.T) {
	for _, s := range []string{
		"", "f", "b", "l", ".", "3", "3.7", "f3", "f3.", "f.7", "f.", ".7", "f37",
		"f3:7", "f3,7", "f3 7", "f3..7", "f3.7.", "f3.7.1", "f.3.7", "ff3.7",
		"f03.7", "f00.7", "f3.07", "f3.00", "f03.07",
		"f+3.7", "f-3.7", "f-0.7", "f-1.1", "f3.+7", "f3.-7", "+f3.7", "f3.-0",
		" f3.7", "f 3.7", "f3 .7", "f3. 7", "f3.7 ", "f3.7\n", "f3.7\x00", "\tf3.7",
		"x3.7", "F3.7", "B3.7", "L3.7", "g3.7", "13.7", "\x003.7", "\xff3.7", "é3.7", "ｆ3.7",
		"f256.1", "f257.1", "f1000.1", "f3.0", "f3.4294967296", "f3.4294967297", "f3.10000000000",
		"f4294967296.1", "f9223372036854775807.1", "f9223372036854775808.1", "f18446744073709551615.1", "f18446744073709551616.1", "f18446744073709551619.1",
		"f-9223372036854775808.1", "f-9223372036854775809.1",
		"f3.9223372036854775808", "f3.18446744073709551615", "f3.18446744073709551616", "f3.18446744073709551623",
		"f0x3.7", "f3.0x7", "f1_0.7", "f3.1_0", "f3e0.7", "f3.7e0", "f٣.7", "f3.٧", "fa.7", "f3.a",
		"f" + strings.Repeat("9", 1000) + ".1", "f3." + strings.Repeat("9", 1000), "f" + strings.Repeat("0", 1000) + "3.7",
	} {
		if d, e := Parse(s); d != (api.Desc{}) || e != api.ErrForm {
			t.Errorf("Parse(%q) = %v, %d", s, d, e)
		}
		holdTexts(t, s)
	}
}

func TestTextsWithAByteMoreOrLess(t *testing.T) {
	for _, s := range []string{"f3.7", "b0.1", "l2.9", "f255.10", "l25.4294967295", "l255.4294967295", "b99.429496729", "f3:7", "b0:1", "l63:4294967295", "f6:429496729", "l7:10"} {
		holdTexts(t, s)
		for _, beside := range neighbours(s) {
			holdTexts(t, beside)
		}
	}
}

func TestShortTexts(t *testing.T) {
	short("fblx.:0123+- ", 5, func(s string) { holdTexts(t, s) })
	short("fl.:0156", 6, func(s string) { holdTexts(t, s) })
}

// P5.3

// byParts compares by the first parts that differ.
func byParts(a, b api.Desc) int {
	return cmp.Or(cmp.Compare(a.Kind, b.Kind), cmp.Compare(a.Slot, b.Slot), cmp.Compare(a.Gen, b.Gen))
}

// anyDescs returns descriptors, possible or not.
func anyDescs() []api.Desc {
	var all []api.Desc
	for _, kind := range anyNums {
		for _, slot := range anyNums {
			for _, gen := range anyGens {
				all = append(all, desc(kind, slot, gen))
			}
		}
	}
	return all
}

func TestOrder(t *testing.T) {
	for _, x := range []struct {
		a, b api.Desc
		want int
	}{
		{desc(1, 3, 7), desc(1, 3, 8), -1},
		{desc(2, 0, 1), desc(1, 9, 9), 1},
		{desc(1, 3, 7), desc(1, 3, 7), 0},
		{desc(1, 3, 7), desc(1, 4, 1), -1},
		{desc(1, 3, last), desc(1, 3, 1), 1},
		{desc(1, 10, 1), desc(1, 9, 1), 1},
		{desc(1, 255, last), desc(2, 0, 1), -1},
		{desc(3, 255, last), desc(3, 255, last), 0},
		{api.Desc{}, api.Desc{}, 0},
		{api.Desc{}, desc(1, 0, 1), -1},
		{desc(0, 0, 0), desc(0, 0, 1), -1},
		{desc(1, -1, 1), desc(1, 0, 1), -1},
		{desc(1, 256, 1), desc(1, 255, 1), 1},
		{desc(4, 0, 0), desc(3, 255, last), 1},
		{desc(-1, 255, last), desc(0, 0, 0), -1},
		{desc(math.MinInt, 0, 0), desc(math.MaxInt, 0, 0), -1},
		{desc(0, math.MaxInt, 0), desc(0, math.MinInt, 0), 1},
		{desc(1, 1<<32, 0), desc(1, 0, last), 1},
		{desc(1<<32, 0, 0), desc(1, 0, 0), 1},
		{desc(0, 0, 1<<31), desc(0, 0, 1), 1},
	} {
		if got := Order(x.a, x.b); got != x.want {
			t.Errorf("Order(%v, %v) = %d; want %d", x.a, x.b, got, x.want)
		}
		if got := Order(x.b, x.a); got != -x.want {
			t.Errorf("Order(%v, %v) = %d; want %d", x.b, x.a, got, -x.want)
		}
	}
}

func TestOrderOfAnyTwo(t *testing.T) {
	all := anyDescs()
	for _, a := range all {
		for _, b := range all {
			if got := Order(a, b); got != byParts(a, b) {
				t.Fatalf("Order(%v, %v) = %d; want %d", a, b, got, byParts(a, b))
			}
		}
	}
}

// P5.4

func TestOutersThatArePossible(t *testing.T) {
	for _, o := range outs() {
		if e := CheckOuter(o); e != api.OK {
			t.Errorf("CheckOuter(%v) = %d", o, e)
		}
		if s, e := OuterText(o); s != outText(o) || e != api.OK {
			t.Errorf("OuterText(%v) = %q, %d", o, s, e)
		}
		if got, e := ParseOuter(outText(o)); got != o || e != api.OK {
			t.Errorf("ParseOuter(%q) = %v, %d", outText(o), got, e)
		}
	}
}

func TestOutersThatAreNotPossible(t *testing.T) {
	for _, o := range noOuts() {
		if e := CheckOuter(o); e != api.ErrArg {
			t.Errorf("CheckOuter(%v) = %d", o, e)
		}
		if s, e := OuterText(o); s != "" || e != api.ErrArg {
			t.Errorf("OuterText(%v) = %q, %d", o, s, e)
		}
	}
}

func TestExamplesOfOuters(t *testing.T) {
	for _, x := range []struct {
		o    api.Outer
		text string
	}{{out(1, 3, 7), "f3:7"}, {out(2, 0, 1), "b0:1"}, {out(3, 63, last), "l63:4294967295"}} {
		text, e := OuterText(x.o)
		o, f := ParseOuter(x.text)
		if text != x.text || e != api.OK || o != x.o || f != api.OK {
			t.Error(x, text, e, o, f)
		}
	}
}

func TestParseOuterOfTextsOfNothing(t *testing.T) {
	for _, s := range []string{
		"", "f", "b", "l", ":", "3", "3:7", "f3", "f3:", "f:7", "f:", ":7", "f37",
		"f3.7", "f3;7", "f3 7", "f3::7", "f3:7:", "f3:7:1", "f3:7.1", "f3.7:1", "f:3:7", "ff3:7",
		"f03:7", "f00:7", "f3:07", "f3:00",
		"f+3:7", "f-3:7", "f-0:7", "f-1:1", "f3:+7", "f3:-7", "+f3:7",
		" f3:7", "f 3:7", "f3 :7", "f3: 7", "f3:7 ", "f3:7\n", "f3:7\x00",
		"x3:7", "q3:7", "F3:7", "B3:7", "L3:7", "13:7", "\x003:7", "\xff3:7",
		"f64:1", "f65:1", "f255:1", "f256:1", "f3:0", "f3:4294967296", "f3:4294967303",
		"f4294967299:7", "f9223372036854775808:1", "f18446744073709551616:1", "f18446744073709551619:1", "f3:18446744073709551623",
		"f0x3:7", "f3:0x7", "f1_0:7", "f3:1_0",
		"f" + strings.Repeat("9", 1000) + ":1", "f3:" + strings.Repeat("9", 1000),
	} {
		if o, e := ParseOuter(s); o != (api.Outer{}) || e != api.ErrForm {
			t.Errorf("ParseOuter(%q) = %v, %d", s, o, e)
		}
		holdTexts(t, s)
	}
}

// A descriptor has more slots than the outer world has numbers.
func TestNumbersBesideTheLastOnes(t *testing.T) {
	if CheckOuter(out(1, 63, 1)) != api.OK || CheckOuter(out(1, 64, 1)) != api.ErrArg {
		t.Error("the last number of the outer world is 63")
	}
	if Check(desc(1, 64, 1)) != api.OK || Check(desc(1, 255, 1)) != api.OK || Check(desc(1, 256, 1)) != api.ErrArg {
		t.Error("the last slot is 255")
	}
}

// P5.5

func TestNamesAreRead(t *testing.T) {
	for _, d := range descs() {
		n, _ := Pack(d)
		if back, e := Unpack(n); back != d || e != api.OK {
			t.Errorf("Unpack(Pack(%v)) = %v, %d", d, back, e)
		}
		s, _ := Text(d)
		if back, e := Parse(s); back != d || e != api.OK {
			t.Errorf("Parse(Text(%v)) = %v, %d", d, back, e)
		}
	}
	for _, o := range outs() {
		s, _ := OuterText(o)
		if back, e := ParseOuter(s); back != o || e != api.OK {
			t.Errorf("ParseOuter(OuterText(%v)) = %v, %d", o, back, e)
		}
	}
}

func TestNoNameIsThatOfTwo(t *testing.T) {
	numbers, texts := map[uint64]api.Desc{}, map[string]any{}
	for _, d := range descs() {
		n, _ := Pack(d)
		s, _ := Text(d)
		if other, is := numbers[n]; is {
			t.Errorf("%d is the number of %v and of %v", n, other, d)
		}
		if other, is := texts[s]; is {
			t.Errorf("%q is the text of %v and of %v", s, other, d)
		}
		numbers[n], texts[s] = d, d
	}
	for _, o := range outs() {
		s, _ := OuterText(o)
		if other, is := texts[s]; is {
			t.Errorf("%q is the text of %v and of %v", s, other, o)
		}
		texts[s] = o
	}
}

// What is read has only one name: what is written again is what was read.
func TestWhatWasReadIsWritten(t *testing.T) {
	short("fbl.:012", 6, func(s string) {
		if d, e := Parse(s); e == api.OK {
			if text, e := Text(d); text != s || e != api.OK {
				t.Errorf("Text(Parse(%q)) = %q, %d", s, text, e)
			}
		}
		if o, e := ParseOuter(s); e == api.OK {
			if text, e := OuterText(o); text != s || e != api.OK {
				t.Errorf("OuterText(ParseOuter(%q)) = %q, %d", s, text, e)
			}
		}
	})
	for high := range uint64(5 << 8) {
		for _, low := range []uint64{0, 1, uint64(last)} {
			n := high<<32 + low
			if d, e := Unpack(n); e == api.OK {
				if back, e := Pack(d); back != n || e != api.OK {
					t.Errorf("Pack(Unpack(%d)) = %d, %d", n, back, e)
				}
			}
		}
	}
}

// P5.6

func TestNumbersAreInOrder(t *testing.T) {
	var some []api.Desc
	for _, kind := range kinds {
		for _, slot := range []int{0, 1, 2, 9, 10, 63, 64, 100, 127, 128, 254, 255} {
			for _, gen := range someGens {
				some = append(some, desc(kind, slot, gen))
			}
		}
	}
	for _, a := range some {
		for _, b := range some {
			n, _ := Pack(a)
			m, _ := Pack(b)
			if Order(a, b) != cmp.Compare(n, m) {
				t.Fatalf("Order(%v, %v) = %d, but their numbers are %d and %d", a, b, Order(a, b), n, m)
			}
		}
	}
}

func TestNumbersGrow(t *testing.T) {
	all := descs()
	slices.SortFunc(all, Order)
	for i := range len(all) - 1 {
		n, _ := Pack(all[i])
		m, _ := Pack(all[i+1])
		if Order(all[i], all[i+1]) != -1 || n >= m {
			t.Errorf("%v before %v: %d, %d", all[i], all[i+1], n, m)
		}
	}
}

// R8 and P1

func TestEqualCallsReturnEqualResults(t *testing.T) {
	type results struct {
		n          uint64
		s, u       string
		d, x       api.Desc
		o          api.Outer
		order      int
		a, b, c, e api.Errno
	}
	ask := func(d api.Desc, s string) results {
		var r results
		r.n, r.a = Pack(d)
		r.s, r.b = Text(d)
		r.d, r.c = Parse(s)
		r.x, r.e = Unpack(number(d).Uint64())
		r.o, _ = ParseOuter(s)
		r.u, _ = OuterText(out(d.Kind, d.Slot, d.Gen))
		r.order = Order(d, r.d)
		return r
	}
	for _, d := range []api.Desc{desc(1, 3, 7), desc(3, 255, last), {}, desc(4, 256, 0)} {
		for _, s := range []string{"f3.7", "f3:7", "", "l255.4294967295", "f256.1"} {
			first := ask(d, s)
			for range 3 {
				if again := ask(d, s); again != first {
					t.Errorf("%v, %q: %v, and then %v", d, s, first, again)
				}
			}
		}
	}
}
