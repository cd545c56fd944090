package dec_test

import (
	"math"
	"math/rand"
	"strings"
	"testing"

	"quire/api"
	"quire/dec"
)

// P904

func noughts(n int) string { return strings.Repeat("0", n) }

func TestParse(t *testing.T) {
	tests := []struct {
		s    string
		want answer
	}{
		{"0", right(0, 0)},
		{"-0", right(0, 0)},
		{"0.0", right(0, 0)},
		{"0e999", right(0, 0)},
		{"-0.000E-999", right(0, 0)},
		{"7", right(7, 0)},
		{"-7", right(-7, 0)},
		{"120", right(12, 1)},
		{"0012", right(12, 0)},
		{"-007.500", right(-75, -1)},
		{"12.5", right(125, -1)},
		{"0.005", right(5, -3)},
		{"1e3", right(1, 3)},
		{"1E3", right(1, 3)},
		{"1e+3", right(1, 3)},
		{"1E-3", right(1, -3)},
		{"1e-0", right(1, 0)},
		{"1e+000", right(1, 0)},
		{"1e018", right(1, 18)},
		{"12.50e1", right(125, 0)},
		{"-12.5E+02", right(-125, 1)},
		{"1e18", right(1, 18)},
		{"1e19", right(10, 18)},
		{"1e36", right(1e18, 18)},
		{"1e37", wrong(api.ErrNum)},
		{"1e400", wrong(api.ErrNum)},
		{"1e999", wrong(api.ErrNum)},
		{"1e-18", right(1, -18)},
		{"1e-19", wrong(api.ErrNum)},
		{"10e-19", right(1, -18)},
		{"1e-999", wrong(api.ErrNum)},
		{"9223372036854775807", right(greatest, 0)},
		{"9223372036854775808", wrong(api.ErrNum)},
		{"-9223372036854775808", right(least, 0)},
		{"-9223372036854775809", wrong(api.ErrNum)},
		{"9223372036854775810", right(922337203685477581, 1)},
		{"9.223372036854775807", right(greatest, -18)},
		{"92.23372036854775807", right(greatest, -17)},
		{"9.223372036854775808", wrong(api.ErrNum)},
		{"0.9223372036854775807", wrong(api.ErrNum)}, // 19 places
		{"9223372036854775807e18", right(greatest, 18)},
		{"9223372036854775807e19", wrong(api.ErrNum)},
		{"18446744073709551616", wrong(api.ErrNum)},                     // 2 to the 64
		{"18446744073709551617", wrong(api.ErrNum)},                     // its low 64 bits are 1
		{"340282366920938463463374607431768211456", wrong(api.ErrNum)},  // 2 to the 128
		{"340282366920938463463374607431768211457", wrong(api.ErrNum)},  // its low 128 bits are 1
		{"-340282366920938463463374607431768211461", wrong(api.ErrNum)}, // its low 128 bits are 5
		{"12345678901234567890", right(1234567890123456789, 1)},
		{"12345678901234567891", wrong(api.ErrNum)},
		{"1" + noughts(36), right(1e18, 18)},
		{"1" + noughts(37), wrong(api.ErrNum)},
		{"1" + noughts(200) + "e-200", right(1, 0)},
		{"1" + noughts(200) + "1e-200", wrong(api.ErrNum)},
		{"0." + noughts(200) + "1e201", right(1, 0)},
		{"0." + noughts(17) + "1", right(1, -18)},
		{"0." + noughts(18) + "1", wrong(api.ErrNum)},
		{noughts(254) + "5", right(5, 0)},
		{"0." + noughts(253), right(0, 0)},
		{"1." + noughts(253), right(1, 0)},
		{strings.Repeat("9", 255), wrong(api.ErrNum)},
		{strings.Repeat("9", 256), wrong(api.ErrSyntax)},
		{noughts(255), right(0, 0)},
		{noughts(256), wrong(api.ErrSyntax)},
		{noughts(100000), wrong(api.ErrSyntax)},
	}
	for _, x := range tests {
		is(t, got(dec.Parse(x.s)), x.want, "Parse", x.s)
	}
}

func TestParseOfOtherTexts(t *testing.T) {
	for _, s := range []string{
		"", "-", "+", "+1", "--1", "-+1", "1-", "- 1", " 1", "1 ", "1 2", "\t1", "1\n", "\n1", "1\x00", "\x001",
		".", ".5", "-.5", "5.", "-5.", "1..2", "1.2.3", "1.-2", "1. 5", "1 .5", "-.", "1,5", "1'000",
		"e", "e5", "E5", "-e5", "1e", "1E", "1e+", "1e-", "1e++1", "1e+-1", "1e--1", "1e 1", "1 e1", "1e1 ", "1e1234", "1e0001", "1e-0001", "1e+1000", "1e1.5", "1e1e1", "1e1-", "1.e5", ".e5", "1ee5", "1eE5", "1f5", "1x", "x1", "0x10", "1_000", "1d", "1p5",
		"inf", "Inf", "nan", "NaN", "TRUE", "?", "1/2", "50%", "$1", "(1)", "\xff", "1\xff", "\xd9\xa1", "\xef\xbc\x91", "1\xc2\xa0", "1e\xef\xbc\x91",
		"99999999999999999999x", "1e400x", "99999999999999999999.", // ErrSyntax, though no number of that size can be told
	} {
		is(t, got(dec.Parse(s)), wrong(api.ErrSyntax), "Parse", s)
		if form.MatchString(s) {
			t.Errorf("%q is a number's text", s)
		}
	}
}

// TestParseByModel asks all texts of up to 5 signs out of those that count, and some longer ones.
func TestParseByModel(t *testing.T) {
	const signs = "01.-+eE x"
	var all func(s string, more int)
	all = func(s string, more int) {
		is(t, got(dec.Parse(s)), modelParse(s), "Parse", s)
		if more == 0 {
			return
		}
		for _, c := range signs {
			all(s+string(c), more-1)
		}
	}
	all("", 5)
	r := rand.New(rand.NewSource(904))
	for range 30000 {
		s := anyText(r)
		is(t, got(dec.Parse(s)), modelParse(s), "Parse", s)
	}
}

// anyText is a number's text, of digits and noughts in any number, and now and then one with a fault.
func anyText(r *rand.Rand) string {
	digits := func(most int) string {
		var out strings.Builder
		out.WriteString(noughts(r.Intn(3)))
		for range 1 + r.Intn(most) {
			out.WriteByte(byte('0' + r.Intn(10)))
		}
		out.WriteString(noughts(r.Intn(6)))
		return out.String()
	}
	s := digits(14)
	if r.Intn(2) == 0 {
		s = "-" + s
	}
	if r.Intn(2) == 0 {
		s += "." + digits(10)
	}
	if r.Intn(2) == 0 {
		s += []string{"e", "E", "e-", "E+"}[r.Intn(4)] + digits(1)
	}
	if r.Intn(8) == 0 {
		at := r.Intn(len(s))
		s = s[:at] + string(".-+eE 0"[r.Intn(7)]) + s[at+r.Intn(2):]
	}
	return s
}

func TestPrint(t *testing.T) {
	tests := []struct {
		a    api.Dec
		want string
	}{
		{d(12, 1), "120"},
		{d(5, -3), "0.005"},
		{d(0, 0), "0"},
		{d(0, 18), "0"},
		{d(0, -18), "0"},
		{d(1, 0), "1"},
		{d(-1, 0), "-1"},
		{d(125, -1), "12.5"},
		{d(-125, -1), "-12.5"},
		{d(125, -3), "0.125"},
		{d(-125, -3), "-0.125"},
		{d(125, -4), "0.0125"},
		{d(101, -1), "10.1"},
		{d(1001, -3), "1.001"},
		{d(1, 18), "1" + noughts(18)},
		{d(-10, 18), "-1" + noughts(19)},
		{d(1, -18), "0." + noughts(17) + "1"},
		{d(-1, -18), "-0." + noughts(17) + "1"},
		{d(greatest, 0), "9223372036854775807"},
		{d(greatest, 18), "9223372036854775807" + noughts(18)},
		{d(greatest, -18), "9.223372036854775807"},
		{d(least, 0), "-9223372036854775808"},
		{d(least, 18), "-9223372036854775808" + noughts(18)},
		{d(least, -18), "-9.223372036854775808"},
		{d(greatest, -9), "9223372036.854775807"},
		{d(10, 0), "10"}, // not right, made so
		{d(10, -1), "1"},
		{d(100, -1), "10"},
		{d(100, -3), "0.1"},
		{d(-1200, -3), "-1.2"},
		{d(1000, -18), "0." + noughts(14) + "1"},
		{d(1e18, -18), "1"},
		{d(1, 19), "?"},
		{d(1, -19), "?"},
		{d(0, 19), "?"},
		{d(10, -19), "?"},
		{d(-1, math.MaxInt), "?"},
		{d(0, math.MinInt), "?"},
	}
	for _, x := range tests {
		if s := dec.Print(x.a); s != x.want {
			t.Errorf("Print(%v): %q, not %q", x.a, s, x.want)
		}
	}
	for _, c := range edgeC {
		for _, e := range edgeE {
			if s, want := dec.Print(d(c, e)), modelPrint(d(c, e)); s != want {
				t.Errorf("Print(%d, %d): %q, not %q", c, e, s, want)
			}
		}
		for _, e := range beyondE {
			if s := dec.Print(d(c, e)); s != "?" {
				t.Errorf("Print(%d, %d): %q", c, e, s)
			}
		}
	}
}

// P905

func TestParseOfPrint(t *testing.T) {
	r := rand.New(rand.NewSource(908))
	ask := func(a api.Dec) {
		is(t, got(dec.Parse(dec.Print(a))), got(dec.Make(a.C, a.E)), "Parse of Print", a)
	}
	for _, c := range edgeC {
		for e := -api.MaxExp; e <= api.MaxExp; e++ {
			ask(d(c, e))
		}
	}
	for range 50000 {
		a := anyDec(r)
		ask(a)
		s := dec.Print(a)
		if b, e := dec.Parse(s); e != api.OK || dec.Print(b) != s || dec.Cmp(a, b) != 0 {
			t.Errorf("Print(%v): %q, which Parse makes %v, %v of", a, s, b, e)
		}
	}
}
