package tags

import (
	"cmp"
	"math"
	"slices"
	"strings"
	"testing"

	"estray/api"
)

// long is a rune of two places, in four bytes.
const long = "\U00010000"

// letters returns a text of n letters.
func letters(n int) string { return strings.Repeat("abcdefghij", n/10+1)[:n] }

// samples are tags: short and full ones, with runes of all lengths in bytes and of both widths, and with bytes 34 and 92 at all places.
func samples() []string {
	out := []string{
		"a", "b", "ab", "aba", "main", "main.go", "main.go:17", "Main", "a-b_c.9", " ", "  ", "a b", "~", "\u0080", "\u009f", "\u00a0",
		"é", "e\u0301", "\u07ff", "\u0800", "ჿ", "ᄀ", "ჿᄀ", "한", "한a", "a한", "a한b", "한글", "\ud7ff", "\ue000", "\ufffd", "\ufeff", "\uffff",
		long, "\U0010ffff", "😀a", "z😀é한",
		`"`, `\`, `""`, `\\`, `"\`, `\"`, `a"b\`, `a\"b`, `\a`, `"a`, `a"`, `a\`, `\n`, `\\"`, `"""`, `한"\글`,
		letters(23), letters(24), strings.Repeat("é", 24), strings.Repeat("한", 24), strings.Repeat(long, 24), strings.Repeat("\U0010ffff", 24),
		strings.Repeat(`"`, 24), strings.Repeat(`\`, 24), letters(22) + `\"`, letters(23) + "한", "한" + letters(23),
	}
	return append(out, over([]string{"a", `"`, `\`}, 3)...)
}

// others are texts that are not tags.
func others() []string {
	return []string{
		"", "\x00", "\t", "\n", "\x1f", "\x7f", "a\n", "\na", "a\nb", "a\x7fb", "\u001f한", // runes that no tag has
		letters(25), letters(1000), strings.Repeat("é", 25), strings.Repeat("한", 25), strings.Repeat(long, 25), strings.Repeat(`\`, 25), strings.Repeat("a", 100000), // too many
		"\xff", "a\xff", "\xffa", "a\xffb", "\x80", "\xbf", "é\x80", "\xc3", "\xc3a", "\xed\x95", "\xed\x95a", "\xf0\x9f\x98", // bytes too many and too few
		"\xed\xa0\x80", "\xed\xbf\xbf", "\xed\xa0\xbd\xed\xb8\x80", "a\xed\xa0\x80b", // surrogates
		"\xc0\x80", "\xc0\xaf", "\xc1\xa1", "\xe0\x80\xa1", "\xe0\x9f\xbf", "\xf0\x80\x80\xa1", "\xf0\x8f\xbf\xbf", // not the shortest form
		"\xf4\x90\x80\x80", "\xf5\x80\x80\x80", "\xf8\x88\x80\x80\x80", "\xfe", // beyond 10FFFF
	}
}

// over returns all texts of 1 to n parts.
func over(parts []string, n int) []string {
	var out []string
	last := []string{""}
	for range n {
		var next []string
		for _, s := range last {
			for _, p := range parts {
				next = append(next, s+p)
			}
		}
		out = append(out, next...)
		last = next
	}
	return out
}

// encoded writes a number as UTF-8 writes runes, be it one or not.
func encoded(n int) string {
	switch {
	case n < 0x80:
		return string([]byte{byte(n)})
	case n < 0x800:
		return string([]byte{0xc0 | byte(n>>6), 0x80 | byte(n&63)})
	case n < 0x10000:
		return string([]byte{0xe0 | byte(n>>12), 0x80 | byte(n>>6&63), 0x80 | byte(n&63)})
	}
	return string([]byte{0xf0 | byte(n>>18), 0x80 | byte(n>>12&63), 0x80 | byte(n>>6&63), 0x80 | byte(n&63)})
}

// numbers reads a text as UTF-8 by bits; false: it is not what encoded writes of runes.
func numbers(s string) ([]int, bool) {
	var out []int
	for s != "" {
		n, more := int(s[0]), 0
		switch {
		case n >= 0xf0:
			n, more = n&15, 3
		case n >= 0xe0:
			n, more = n&15, 2
		case n >= 0xc0:
			n, more = n&31, 1
		}
		if len(s) <= more {
			return nil, false
		}
		for _, b := range []byte(s[1 : more+1]) {
			n = n<<6 | int(b&63)
		}
		if n > 0x10ffff || n >= 0xd800 && n <= 0xdfff || encoded(n) != s[:more+1] {
			return nil, false
		}
		out = append(out, n)
		s = s[more+1:]
	}
	return out, true
}

// isTag says by the chapter's words whether a text is a tag.
func isTag(s string) bool {
	ns, is := numbers(s)
	if !is || len(ns) < 1 || len(ns) > 24 {
		return false
	}
	return !slices.ContainsFunc(ns, func(n int) bool { return n < 32 || n == 127 })
}

// widthOf adds up the widths of the runes of a tag.
func widthOf(s string) int {
	width := 0
	ns, _ := numbers(s)
	for _, n := range ns {
		width++
		if n >= 0x1100 {
			width++
		}
	}
	return width
}

// quoted writes the quoted form of a text, byte by byte.
func quoted(s string) string {
	out := []byte{34}
	for _, b := range []byte(s) {
		if b == 34 || b == 92 {
			out = append(out, 92)
		}
		out = append(out, b)
	}
	return string(append(out, 34))
}

// take checks what all functions say of a tag.
func take(t *testing.T, s string) {
	t.Helper()
	if e := Check(s); e != api.OK {
		t.Fatalf("Check %q: %d", s, e)
	}
	if q, e := Quote(s); q != quoted(s) || e != api.OK {
		t.Errorf("Quote %q: %q %d", s, q, e)
	}
	if w, e := Width(s); w != widthOf(s) || e != api.OK {
		t.Errorf("Width %q: %d %d", s, w, e)
	}
	if plain := strings.Trim(s, "abcdefghijklmnopqrstuvwxyz0123456789-._") == ""; Plain(s) != plain {
		t.Errorf("Plain %q: %v", s, !plain)
	}
	if c, e := Cut(s, 48); c != s || e != api.OK {
		t.Errorf("Cut %q: %q %d", s, c, e)
	}
	if back, n, e := Unquote(quoted(s)); back != s || n != len(quoted(s)) || e != api.OK {
		t.Errorf("Unquote of %q in quotes: %q %d %d", s, back, n, e)
	}
	if Order(s, s) != 0 || Order("", s) != -1 || Order(s, "") != 1 {
		t.Errorf("Order %q: %d %d %d", s, Order(s, s), Order("", s), Order(s, ""))
	}
}

// refuse checks what all functions say of a text that is not a tag.
func refuse(t *testing.T, s string) {
	t.Helper()
	if e := Check(s); e != api.ErrTag {
		t.Fatalf("Check %.40q: %d", s, e)
	}
	if q, e := Quote(s); q != "" || e != api.ErrTag {
		t.Errorf("Quote %.40q: %.40q %d", s, q, e)
	}
	if w, e := Width(s); w != 0 || e != api.ErrTag {
		t.Errorf("Width %.40q: %d %d", s, w, e)
	}
	if Plain(s) {
		t.Errorf("Plain %.40q", s)
	}
	for _, width := range []int{math.MinInt, -1, 0, 1, 48, math.MaxInt} {
		if c, e := Cut(s, width); c != "" || e != api.ErrTag {
			t.Errorf("Cut %.40q to %d: %.40q %d", s, width, c, e)
		}
	}
	if back, n, e := Unquote(quoted(s)); back != "" || n != 0 || e != api.ErrTag {
		t.Errorf("Unquote of %.40q in quotes: %.40q %d %d", s, back, n, e)
	}
	if Order(s, s) != 0 || Order(s, "a") != -1 || Order("a", s) != 1 || Order(s, "\n") != 0 {
		t.Errorf("Order %.40q: %d %d %d %d", s, Order(s, s), Order(s, "a"), Order("a", s), Order(s, "\n"))
	}
}

// takeOrRefuse checks what all functions say of a text, whatever it is.
func takeOrRefuse(t *testing.T, s string) {
	t.Helper()
	if isTag(s) {
		take(t, s)
	} else {
		refuse(t, s)
	}
}

// P2.1

func TestCheck(t *testing.T) {
	for _, x := range []struct {
		s string
		e api.Errno
	}{
		{"main.go", api.OK},
		{"한", api.OK},
		{" ", api.OK},
		{"~", api.OK},
		{"\u0080", api.OK},
		{"\ufffd", api.OK}, // what a range over a string shows for bytes that are not UTF-8
		{"\ud7ff\ue000", api.OK},
		{"\U0010ffff", api.OK},
		{letters(24), api.OK},
		{strings.Repeat(long, 24), api.OK}, // 24 runes are 96 bytes
		{letters(25), api.ErrTag},
		{"", api.ErrTag},
		{"\x1f", api.ErrTag},
		{"\x7f", api.ErrTag},
		{"\n", api.ErrTag},
		{"\xff", api.ErrTag},
		{"\xed\xa0\x80", api.ErrTag},
		{"\xc0\xaf", api.ErrTag},
		{"\xf4\x90\x80\x80", api.ErrTag},
	} {
		if e := Check(x.s); e != x.e {
			t.Errorf("Check %q: %d", x.s, e)
		}
	}
	for _, s := range samples() {
		take(t, s)
	}
	for _, s := range others() {
		refuse(t, s)
	}
}

func TestEachRune(t *testing.T) {
	for n := range 0x120000 {
		want := api.OK
		if n < 32 || n == 127 || n >= 0xd800 && n <= 0xdfff || n > 0x10ffff {
			want = api.ErrTag
		}
		s := encoded(n)
		if e := Check(s); e != want {
			t.Fatalf("Check of %x: %d", n, e)
		}
		if n < 0x3000 || n%251 == 0 {
			takeOrRefuse(t, s)
		}
	}
}

func TestAllShortTexts(t *testing.T) {
	for a := range 256 {
		takeOrRefuse(t, string([]byte{byte(a)}))
		for b := range 256 {
			s := string([]byte{byte(a), byte(b)})
			if got := Check(s) == api.OK; got != isTag(s) {
				t.Errorf("Check %q: %v", s, got)
			}
		}
	}
}

func TestBytesAtTheirEnds(t *testing.T) {
	var ends []string
	for _, b := range []byte{0x00, 0x1f, 0x20, 0x7e, 0x7f, 0x80, 0x8f, 0x90, 0x9f, 0xa0, 0xbf, 0xc0, 0xc1, 0xc2, 0xdf, 0xe0, 0xe1, 0xec, 0xed, 0xee, 0xef, 0xf0, 0xf1, 0xf3, 0xf4, 0xf5, 0xff} {
		ends = append(ends, string([]byte{b}))
	}
	for _, s := range over(ends, 4) {
		if got := Check(s) == api.OK; got != isTag(s) {
			t.Fatalf("Check %q: %v", s, got)
		}
	}
}

func TestQuote(t *testing.T) {
	for _, x := range []struct {
		s, q string
		e    api.Errno
	}{
		{"main.go", `"main.go"`, api.OK},
		{`a"b\`, `"a\"b\\"`, api.OK},
		{`"`, `"\""`, api.OK},
		{`\`, `"\\"`, api.OK},
		{`\"`, `"\\\""`, api.OK},
		{`"\`, `"\"\\"`, api.OK},
		{`\n`, `"\\n"`, api.OK},
		{"한 é", `"한 é"`, api.OK},
		{"\u0080\u200b", "\"\u0080\u200b\"", api.OK},
		{strings.Repeat(`\`, 24), `"` + strings.Repeat(`\`, 48) + `"`, api.OK},
		{strings.Repeat(`\`, 25), "", api.ErrTag},
		{"a\tb", "", api.ErrTag},
		{"", "", api.ErrTag},
	} {
		if q, e := Quote(x.s); q != x.q || e != x.e {
			t.Errorf("Quote %q: %q %d", x.s, q, e)
		}
	}
}

func TestWidth(t *testing.T) {
	for _, x := range []struct {
		s    string
		want int
		e    api.Errno
	}{
		{"main", 4, api.OK},
		{"é", 1, api.OK},
		{"e\u0301", 2, api.OK},
		{"\u10ff", 1, api.OK},
		{"\u1100", 2, api.OK},
		{"\u10ff\u1100", 3, api.OK},
		{"한a", 3, api.OK},
		{"\ufffd", 2, api.OK},
		{"\U0010ffff", 2, api.OK},
		{letters(24), 24, api.OK},
		{strings.Repeat("한", 24), 48, api.OK},
		{strings.Repeat("한", 25), 0, api.ErrTag},
		{"한\n", 0, api.ErrTag},
		{"", 0, api.ErrTag},
	} {
		if w, e := Width(x.s); w != x.want || e != x.e {
			t.Errorf("Width %q: %d %d", x.s, w, e)
		}
	}
}

func TestPlain(t *testing.T) {
	for _, s := range []string{"main.go", "a", "z", "0", "9", "-", ".", "_", "-._", "a-b_c.9", "abcdefghijklmnopqrstuvwx", "yz0123456789-._"} {
		if !Plain(s) {
			t.Errorf("Plain %q", s)
		}
	}
	for _, s := range []string{
		"", "Main", "mainGo", "a b", " a", "a ", "`", "{", "/", ":", ",", "a/b", "a:9", "A", "Z", "[", "^", `"`, `\`, "é", "a한", "ａ", "٣", "\u0131",
		"a\n", "a\xff", "\xff", letters(25), strings.Repeat("9", 25),
	} {
		if Plain(s) {
			t.Errorf("Plain %q", s)
		}
	}
}

// P2.2

func TestUnquote(t *testing.T) {
	for _, x := range []struct {
		s, want string
		n       int
		e       api.Errno
	}{
		{`"main.go"`, "main.go", 9, api.OK},
		{`"a\"b" 5`, `a"b`, 6, api.OK},
		{`"a"b"`, "a", 3, api.OK},
		{`"a""b"`, "a", 3, api.OK},
		{`"a"\`, "a", 3, api.OK},
		{"\"a\"\xff\n", "a", 3, api.OK},
		{`"\\"`, `\`, 4, api.OK},
		{`"\\""`, `\`, 4, api.OK},
		{`"\""`, `"`, 4, api.OK},
		{`"\\\""`, `\"`, 6, api.OK},
		{`"a\\" "`, `a\`, 5, api.OK},
		{`"한"a`, "한", 5, api.OK},
		{`" "`, " ", 3, api.OK},
		{`"` + letters(24) + `"`, letters(24), 26, api.OK},
		{`"` + strings.Repeat(`\"`, 24) + `"`, strings.Repeat(`"`, 24), 50, api.OK}, // 48 bytes within, but 24 runes

		{"", "", 0, api.ErrForm},
		{`a`, "", 0, api.ErrForm},
		{`a"`, "", 0, api.ErrForm},
		{` "a"`, "", 0, api.ErrForm},
		{`\"a"`, "", 0, api.ErrForm},
		{`'a'`, "", 0, api.ErrForm},
		{`"`, "", 0, api.ErrForm},
		{`"a`, "", 0, api.ErrForm},
		{`"a\`, "", 0, api.ErrForm},
		{`"\`, "", 0, api.ErrForm},
		{`"\"`, "", 0, api.ErrForm},
		{`"a\"`, "", 0, api.ErrForm},
		{`"a\\\"`, "", 0, api.ErrForm},
		{`"\\\"`, "", 0, api.ErrForm},
		{`"\a"`, "", 0, api.ErrForm},
		{`"a\n"`, "", 0, api.ErrForm},
		{`"\\\a"`, "", 0, api.ErrForm},
		{`"\한"`, "", 0, api.ErrForm},
		{`"` + letters(1000), "", 0, api.ErrForm},
		{`"` + strings.Repeat(`\`, 100001), "", 0, api.ErrForm},

		// What is not a quoted form is that first, whatever stands within it.
		{"\"\n", "", 0, api.ErrForm},
		{"\"\xff\\a\"", "", 0, api.ErrForm},
		{`"` + letters(25) + `\a"`, "", 0, api.ErrForm},
		{"a\n", "", 0, api.ErrForm},

		{`""`, "", 0, api.ErrTag},
		{`"" "a"`, "", 0, api.ErrTag},
		{`"""`, "", 0, api.ErrTag},
		{`""\`, "", 0, api.ErrTag},
		{"\"\n\"", "", 0, api.ErrTag},
		{"\"a\x7f\"", "", 0, api.ErrTag},
		{"\"\xff\"", "", 0, api.ErrTag},
		{"\"\xed\xa0\x80\"", "", 0, api.ErrTag},
		{"\"\xc3\\\"\"", "", 0, api.ErrTag},
		{`"` + letters(25) + `"`, "", 0, api.ErrTag},
		{`"` + strings.Repeat(`\\`, 25) + `"`, "", 0, api.ErrTag},
		{`"` + letters(100000) + `"`, "", 0, api.ErrTag},
	} {
		if s, n, e := Unquote(x.s); s != x.want || n != x.n || e != x.e {
			t.Errorf("Unquote %.40q: %.40q %d %d", x.s, s, n, e)
		}
	}
}

// unquoted does what Unquote promises, by the parity of how many bytes 92 stand one behind the other.
func unquoted(s string) (string, int, api.Errno) {
	if !strings.HasPrefix(s, `"`) {
		return "", 0, api.ErrForm
	}
	run := 0 // bytes 92 just before this byte
	for at, b := range []byte(s[1:]) {
		if b == 92 {
			run++
			continue
		}
		if run%2 == 1 && b != 34 {
			return "", 0, api.ErrForm
		}
		if run%2 == 0 && b == 34 {
			tag := strings.NewReplacer(`\\`, `\`, `\"`, `"`).Replace(s[1 : at+1])
			if !isTag(tag) {
				return "", 0, api.ErrTag
			}
			return tag, at + 2, api.OK
		}
		run = 0
	}
	return "", 0, api.ErrForm
}

func TestUnquoteAllShortTexts(t *testing.T) {
	for _, s := range append(over([]string{`"`, `\`, "a", "한", "\n", "\xff"}, 6), over([]string{`"`, `\`, "a"}, 9)...) {
		want, wantN, wantE := unquoted(s)
		if tag, n, e := Unquote(s); tag != want || n != wantN || e != wantE {
			t.Fatalf("Unquote %q: %q %d %d, not %q %d %d", s, tag, n, e, want, wantN, wantE)
		}
	}
}

// P2.3

func TestCut(t *testing.T) {
	for _, x := range []struct {
		s     string
		width int
		want  string
		e     api.Errno
	}{
		{"한a", 3, "한a", api.OK},
		{"한a", 2, "한", api.OK},
		{"한a", 1, "", api.OK},
		{"한a", 0, "", api.OK},
		{"한a", -1, "", api.ErrArg},
		{"a한b", 1, "a", api.OK},
		{"a한b", 2, "a", api.OK}, // the b would fit, but the 한 before it does not
		{"a한b", 3, "a한", api.OK},
		{"éa", 1, "é", api.OK},
		{"\u10ff\u1100", 2, "\u10ff", api.OK},
		{"main.go", 4, "main", api.OK},
		{"main.go", 7, "main.go", api.OK},
		{"main.go", math.MaxInt, "main.go", api.OK},
		{"main.go", math.MinInt, "", api.ErrArg},
		{strings.Repeat(long, 24), 47, strings.Repeat(long, 23), api.OK},
		{strings.Repeat(long, 24), 48, strings.Repeat(long, 24), api.OK},
		{"", -1, "", api.ErrTag},
		{"", 0, "", api.ErrTag},
		{"\n", -1, "", api.ErrTag},
		{"a\n", 1, "", api.ErrTag},
		{letters(25), 24, "", api.ErrTag},
	} {
		if c, e := Cut(x.s, x.width); c != x.want || e != x.e {
			t.Errorf("Cut %q to %d: %q %d", x.s, x.width, c, e)
		}
	}
}

// beginning returns the longest beginning of whole runes that fits, by trying all of them.
func beginning(s string, width int) string {
	for end := len(s); end > 0; end-- {
		if _, whole := numbers(s[:end]); whole && widthOf(s[:end]) <= width {
			return s[:end]
		}
	}
	return ""
}

func TestCutIsTheLongest(t *testing.T) {
	for _, s := range samples() {
		for width := range 60 {
			if c, e := Cut(s, width); c != beginning(s, width) || e != api.OK {
				t.Errorf("Cut %q to %d: %q %d", s, width, c, e)
			}
		}
	}
}

// P2.4

func TestOrder(t *testing.T) {
	for _, x := range []struct {
		a, b string
		want int
	}{
		{"a", "ab", -1}, {"b", "ab", 1}, {"ab", "ab", 0}, {"ab", "b", -1}, {"ab", "ac", -1}, {"B", "a", -1}, {"z", "é", -1},
		{"é", "한", -1}, {"a10", "a9", -1}, {"10", "9", -1}, {"a", "a ", -1}, {"\u00e9", "e\u0301", 1},
		{"\uffff", "\U00010000", -1}, {"\ufffd", "\U00010000", -1}, {"\U0010ffff", "\U00010000", 1}, {"\ud7ff", "\ue000", -1}, // where UTF-16 has another order
		{letters(24), letters(23), 1}, {letters(23) + "a", letters(23) + "b", -1},
		{"", "a", -1}, {"a", "", 1}, {"", "\t", 0}, {"", "", 0}, {"\t", "a", -1}, {"a", "\t", 1}, {"\xff", "\n", 0},
		{letters(25), "a", -1}, {letters(25), letters(24), -1}, {"\xff", "\U0010ffff", -1}, {"\x7f", " ", -1}, {"a\n", "a", -1}, {"a\n", "a\xff", 0},
	} {
		if n := Order(x.a, x.b); n != x.want {
			t.Errorf("Order %q %q: %d", x.a, x.b, n)
		}
		if n := Order(x.b, x.a); n != -x.want {
			t.Errorf("Order %q %q: %d", x.b, x.a, n)
		}
	}
}

func TestOrderIsThatOfRunes(t *testing.T) {
	for _, a := range samples() {
		as, _ := numbers(a)
		for _, b := range samples() {
			bs, _ := numbers(b)
			if n := Order(a, b); n != slices.Compare(as, bs) {
				t.Errorf("Order %q %q: %d", a, b, n)
			}
		}
	}
}

// P2.5

func TestBack(t *testing.T) {
	behind := append(others(), samples()...)
	behind = append(behind, ` 5 "main"`, `" more`, `\" more"`, quoted("a")+quoted("b"))
	for _, s := range samples() {
		q, e := Quote(s)
		if e != api.OK {
			t.Fatalf("Quote %q: %d", s, e)
		}
		for _, b := range behind {
			if back, n, e := Unquote(q + b); back != s || n != len(q) || e != api.OK {
				t.Errorf("Unquote %q and %.40q: %q %d %d", q, b, back, n, e)
			}
		}
		for end := range q {
			if back, n, e := Unquote(q[:end]); back != "" || n != 0 || e != api.ErrForm {
				t.Errorf("Unquote %q: %q %d %d", q[:end], back, n, e)
			}
		}
	}
}

func TestNoFormBeginsWithAnother(t *testing.T) {
	all := append(samples(), over([]string{"a", `"`, `\`}, 5)...)
	for _, a := range all {
		qa, _ := Quote(a)
		for _, b := range all {
			if qb, _ := Quote(b); a != b && strings.HasPrefix(qa, qb) {
				t.Errorf("%q begins with %q", qa, qb)
			}
		}
	}
}

// P2.6

func TestWidthAndRunes(t *testing.T) {
	for _, s := range samples() {
		ns, _ := numbers(s)
		if w, e := Width(s); w < len(ns) || w > 2*len(ns) || e != api.OK {
			t.Errorf("Width %q: %d %d for %d runes", s, w, e, len(ns))
		}
	}
}

func TestCutOfCut(t *testing.T) {
	for _, s := range samples() {
		whole, _ := Width(s)
		for a := range whole + 2 {
			first, e := Cut(s, a)
			if e != api.OK || a >= whole && first != s {
				t.Errorf("Cut %q to %d of %d: %q %d", s, a, whole, first, e)
			}
			if first == "" {
				continue
			}
			for b := range whole + 2 {
				again, e := Cut(first, b)
				if once, f := Cut(s, min(a, b)); again != once || e != api.OK || f != api.OK {
					t.Errorf("Cut %q to %d and %d: %q %d, but at once %q %d", s, a, b, again, e, once, f)
				}
			}
		}
	}
}

// P2.7

func TestOrderProperties(t *testing.T) {
	tags := slices.Compact(slices.Sorted(slices.Values(samples())))
	all := append([]string{"", "\t", "a\xff", letters(25)}, tags...)
	for i, a := range all {
		for j, b := range all {
			n := Order(a, b)
			if n != -Order(b, a) {
				t.Errorf("Order %q %q: %d and %d", a, b, n, Order(b, a))
			}
			if i < 4 && j < 4 {
				if n != 0 {
					t.Errorf("Order %q %q: %d", a, b, n)
				}
				continue
			}
			// Behind the texts that are not tags, the list is sorted by bytes, and has nothing twice.
			if n != cmp.Compare(i, j) {
				t.Errorf("Order %q %q: %d", a, b, n)
			}
		}
	}
}

func TestOrderGoesOn(t *testing.T) {
	all := append(over([]string{"a", "é", "한", long, "\n"}, 2), "", " ", "~")
	for _, a := range all {
		for _, b := range all {
			for _, c := range all {
				if ab, bc := Order(a, b), Order(b, c); ab <= 0 && bc <= 0 && Order(a, c) != min(ab, bc) {
					t.Errorf("Order %q %q %q: %d %d, but %d", a, b, c, ab, bc, Order(a, c))
				}
			}
		}
	}
}

// P2.8

func TestOneMoreIsRefused(t *testing.T) {
	var more []string
	for n := range 32 {
		more = append(more, encoded(n))
	}
	more = append(more, "\x7f")
	for b := 0x80; b < 0x100; b++ {
		more = append(more, string([]byte{byte(b)})) // between whole runes, no such byte belongs to UTF-8
	}
	for _, s := range []string{"a", "main.go", "é", "한a", "a" + long, `"\`, letters(23), letters(24), strings.Repeat("한", 24)} {
		for at := range s {
			for _, m := range more {
				refuse(t, s[:at]+m+s[at:])
			}
		}
		for _, m := range more {
			refuse(t, s+m)
		}
	}
}

func TestTooManyOrNone(t *testing.T) {
	for _, r := range []string{"a", "9", " ", `"`, `\`, "é", "\u10ff", "한", "\ufffd", long} {
		take(t, strings.Repeat(r, 24))
		refuse(t, strings.Repeat(r, 25))
		refuse(t, strings.Repeat(r, 26))
		refuse(t, strings.Repeat(r, 1<<16+1))
	}
	refuse(t, "")
}
