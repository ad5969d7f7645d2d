package gens

import (
	"strconv"
	"strings"
	"testing"

	"estray/api"
)

const last = api.MaxGen

// samples are generations at the ends, around powers of two and of ten, and between them.
func samples() []uint32 {
	out := []uint32{1, 2, 3, 5, 7, 12345, 3141592653, last - 3, last - 2, last - 1, last}
	for shift := 3; shift < 32; shift++ {
		p := uint32(1) << shift
		out = append(out, p-1, p, p+1)
	}
	p := uint32(1)
	for range 9 {
		p *= 10
		out = append(out, p-1, p, p+1)
	}
	return out
}

// P1.1

func TestCheck(t *testing.T) {
	if e := Check(0); e != api.ErrArg {
		t.Error("Check(0):", e)
	}
	for _, g := range samples() {
		if e := Check(g); e != api.OK {
			t.Error("Check", g, e)
		}
	}
}

func TestNext(t *testing.T) {
	for _, x := range []struct {
		g, want uint32
		is      bool
		e       api.Errno
	}{
		{1, 2, true, api.OK},
		{2, 3, true, api.OK},
		{9, 10, true, api.OK},
		{1<<31 - 1, 1 << 31, true, api.OK},
		{1 << 31, 1<<31 + 1, true, api.OK},
		{4294967294, 4294967295, true, api.OK},
		{4294967295, 0, false, api.OK},
		{0, 0, false, api.ErrArg},
	} {
		if n, is, e := Next(x.g); n != x.want || is != x.is || e != x.e {
			t.Error("Next", x, n, is, e)
		}
	}
}

func TestLeft(t *testing.T) {
	for _, x := range []struct {
		g, want uint32
		e       api.Errno
	}{
		{1, 4294967294, api.OK},
		{2, 4294967293, api.OK},
		{1 << 31, 1<<31 - 1, api.OK},
		{4294967294, 1, api.OK},
		{4294967295, 0, api.OK},
		{0, 0, api.ErrArg},
	} {
		if n, e := Left(x.g); n != x.want || e != x.e {
			t.Error("Left", x, n, e)
		}
	}
}

// P1.2

func TestAfter(t *testing.T) {
	for _, x := range []struct {
		g    uint32
		n    uint64
		want uint32
		is   bool
		e    api.Errno
	}{
		{5, 0, 5, true, api.OK},
		{5, 1, 6, true, api.OK},
		{5, 10, 15, true, api.OK},
		{5, 4294967290, 4294967295, true, api.OK},
		{5, 4294967291, 0, false, api.OK},
		{1, 4294967294, 4294967295, true, api.OK},
		{1, 4294967295, 0, false, api.OK},
		{1, 1 << 32, 0, false, api.OK},
		{1, 1<<32 + 1, 0, false, api.OK},
		{7, 3 << 32, 0, false, api.OK},
		{1, 1 << 63, 0, false, api.OK},
		{1, 18446744073709551615, 0, false, api.OK},
		{4294967295, 18446744073709551615, 0, false, api.OK},
		{4294967295, 0, 4294967295, true, api.OK},
		{4294967295, 1, 0, false, api.OK},
		{0, 0, 0, false, api.ErrArg},
		{0, 5, 0, false, api.ErrArg},
		{0, 18446744073709551615, 0, false, api.ErrArg},
	} {
		if n, is, e := After(x.g, x.n); n != x.want || is != x.is || e != x.e {
			t.Error("After", x, n, is, e)
		}
	}
}

// P1.3

func TestNewer(t *testing.T) {
	for _, x := range []struct {
		a, b uint32
		is   bool
		e    api.Errno
	}{
		{3, 2, true, api.OK},
		{2, 3, false, api.OK},
		{2, 2, false, api.OK},
		{1, 1, false, api.OK},
		{10, 9, true, api.OK},
		{1 << 31, 1<<31 - 1, true, api.OK},
		{1, 4294967295, false, api.OK},
		{4294967295, 1, true, api.OK},
		{4294967295, 4294967295, false, api.OK},
		{2, 0, false, api.ErrArg},
		{0, 2, false, api.ErrArg},
		{0, 0, false, api.ErrArg},
	} {
		if is, e := Newer(x.a, x.b); is != x.is || e != x.e {
			t.Error("Newer", x, is, e)
		}
	}
}

// P1.4

func TestText(t *testing.T) {
	for _, x := range []struct {
		g    uint32
		want string
		e    api.Errno
	}{
		{1, "1", api.OK},
		{9, "9", api.OK},
		{10, "10", api.OK},
		{1000000000, "1000000000", api.OK},
		{1 << 31, "2147483648", api.OK},
		{4294967295, "4294967295", api.OK},
		{0, "", api.ErrArg},
	} {
		if s, e := Text(x.g); s != x.want || e != x.e {
			t.Error("Text", x, s, e)
		}
	}
}

func TestParse(t *testing.T) {
	for _, x := range []struct {
		s    string
		want uint32
	}{
		{"1", 1}, {"7", 7}, {"10", 10}, {"100", 100}, {"999999999", 999999999}, {"1000000000", 1000000000},
		{"2147483648", 1 << 31}, {"4294967294", 4294967294}, {"4294967295", 4294967295},
	} {
		if g, e := Parse(x.s); g != x.want || e != api.OK {
			t.Error("Parse", x, g, e)
		}
	}
}

func TestParseRefuses(t *testing.T) {
	for _, s := range []string{
		"", "0", "00", "07", "007", "04294967295", "00000000001", // zeros ahead
		"+", "-", "+7", "-7", "-1", "-0", "+0", "++7", // signs
		" ", " 7", "7 ", "1 0", "\t7", "7\n", "\r7", "7\x00", "\u00a07", // blanks
		"4294967296", "4294967299", "4294967300", "5000000000", "9999999999", // beyond the last one
		"10000000000", "42949672950", "18446744073709551615", "18446744073709551616", "18446744073709551617", "99999999999999999999", // digits too many
		"a", "x7", "7x", "0x7", "0b1", "0o7", "1e3", "7.0", "7.", ".7", "1_0", "1,000", "Inf", "nil",
		"\u0667", "\uff17", "\xff", "7\xff", "\u00b2", // digits of other scripts, and bytes that are none
		strings.Repeat("0", 100) + "7", strings.Repeat("7", 100000), strings.Repeat("0", 100000),
	} {
		if g, e := Parse(s); g != 0 || e != api.ErrForm {
			t.Errorf("Parse %.30q: %d %d", s, g, e)
		}
	}
}

// P1.5

func TestAfterIsNextAgainAndAgain(t *testing.T) {
	for _, from := range samples() {
		g, is := from, true
		for n := uint64(0); n < 300; n++ {
			want, wantIs, e := After(from, n)
			if want != g || wantIs != is || e != api.OK {
				t.Fatal("After", from, n, want, wantIs, e, "but the steps lead to", g, is)
			}
			if is {
				g, is, _ = Next(g)
			}
		}
	}
}

func TestStepsLeft(t *testing.T) {
	for steps := uint32(0); steps < 300; steps++ {
		from := last - steps
		count := uint32(0)
		for g, is, e := Next(from); is; g, is, e = Next(g) {
			if e != api.OK {
				t.Fatal(from, g, e)
			}
			count++
		}
		if left, e := Left(from); left != count || e != api.OK {
			t.Error("Left", from, left, e, "but there are", count, "steps")
		}
	}
	for _, g := range samples() {
		left, _ := Left(g)
		end, is, e := After(g, uint64(left))
		if end != last || !is || e != api.OK {
			t.Error("After", g, left, end, is, e)
		}
		if end, is, e = After(g, uint64(left)+1); end != 0 || is || e != api.OK {
			t.Error("After", g, uint64(left)+1, end, is, e)
		}
		if next, is, _ := Next(g); is {
			if fewer, _ := Left(next); fewer != left-1 {
				t.Error("Left", next, fewer, "behind", left)
			}
		} else if left != 0 {
			t.Error("no step from", g, "but left are", left)
		}
	}
}

// P1.6

func TestOrder(t *testing.T) {
	all := samples()
	for _, a := range all {
		for _, b := range all {
			ab, e := Newer(a, b)
			ba, f := Newer(b, a)
			if e != api.OK || f != api.OK || ab && ba || (a != b) != (ab || ba) {
				t.Error("Newer", a, b, ab, ba, e, f)
			}
		}
	}
}

func TestLaterIsNewer(t *testing.T) {
	for _, g := range samples() {
		left, _ := Left(g)
		for _, n := range []uint64{1, 2, 255, uint64(left) / 2, uint64(left)} {
			l, is, _ := After(g, n)
			if !is || n == 0 {
				continue
			}
			if newer, e := Newer(l, g); !newer || e != api.OK {
				t.Error("Newer", l, g, newer, e)
			}
			if newer, e := Newer(g, l); newer || e != api.OK {
				t.Error("Newer", g, l, newer, e)
			}
		}
	}
}

// P1.7

func TestTextsLeadBack(t *testing.T) {
	check := func(g uint32) {
		s, e := Text(g)
		back, f := Parse(s)
		if s != strconv.Itoa(int(g)) || e != api.OK || back != g || f != api.OK {
			t.Error("Text", g, s, e, back, f)
		}
	}
	for g := uint32(1); g <= 20000; g++ {
		check(g)
		check(last - g + 1)
	}
	for _, g := range samples() {
		check(g)
	}
}

// isText says by the chapter's words whether s is the text of a generation.
func isText(s string) bool {
	if s == "" || s[0] == '0' || strings.Trim(s, "0123456789") != "" {
		return false
	}
	end := "4294967295"
	return len(s) < len(end) || len(s) == len(end) && s <= end
}

func TestNothingElseIsRead(t *testing.T) {
	check := func(s string) {
		g, e := Parse(s)
		if !isText(s) {
			if g != 0 || e != api.ErrForm {
				t.Errorf("Parse %q: %d %d", s, g, e)
			}
			return
		}
		if text, f := Text(g); e != api.OK || f != api.OK || text != s {
			t.Errorf("Parse %q: %d %d, whose text is %q", s, g, e, text)
		}
	}
	texts := []string{""}
	for range 4 {
		var longer []string
		for _, s := range texts {
			check(s)
			for _, c := range "0179+-_ .xe" {
				longer = append(longer, s+string(c))
			}
		}
		texts = longer
	}
	for _, s := range texts {
		check(s)
	}
	for n := uint64(4294967295 - 5000); n < 4294967295+5000; n++ {
		check(strconv.FormatUint(n, 10))
	}
	for b := range 256 {
		check(string([]byte{byte(b)}))
		check(string([]byte{'7', byte(b)}))
		check(string([]byte{byte(b), '7'}))
		check(string([]byte{'4', '2', byte(b), '4'}))
	}
}
