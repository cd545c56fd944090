package val_test

import (
	"math/rand"
	"strings"
	"testing"

	"quire/api"
	"quire/dec"
	"quire/val"
)

// P1301

func TestNum(t *testing.T) {
	for _, x := range []struct{ v, want api.Value }{
		{empty, num(0, 0)},
		{truth(true), num(1, 0)},
		{truth(false), num(0, 0)},
		{num(15, -1), num(15, -1)},
		{num(0, 0), num(0, 0)},
		{num(least, 18), num(least, 18)},
		{text("2"), num(2, 0)},
		{text("-2"), num(-2, 0)},
		{text("1.50"), num(15, -1)},
		{text("1e3"), num(1, 3)},
		{text("1E-3"), num(1, -3)},
		{text("1e+3"), num(1, 3)},
		{text("007"), num(7, 0)},
		{text("-0"), num(0, 0)},
		{text(" 2"), num(2, 0)},
		{text("2 "), num(2, 0)},
		{text("   2  "), num(2, 0)},
		{text(" 9223372036854775807 "), num(greatest, 0)},
		{text("1e36"), num(1000000000000000000, 18)},
		{text(""), fail(api.EValue)},
		{text(" "), fail(api.EValue)},
		{text("   "), fail(api.EValue)},
		{text("\t2"), fail(api.EValue)},
		{text("2\n"), fail(api.EValue)},
		{text("2\r"), fail(api.EValue)},
		{text("\u00a02"), fail(api.EValue)},
		{text("2\u3000"), fail(api.EValue)},
		{text("2 3"), fail(api.EValue)},
		{text("- 2"), fail(api.EValue)},
		{text("+2"), fail(api.EValue)},
		{text(".5"), fail(api.EValue)},
		{text("5."), fail(api.EValue)},
		{text("1e"), fail(api.EValue)},
		{text("1e1000"), fail(api.EValue)},
		{text("1,5"), fail(api.EValue)},
		{text("x"), fail(api.EValue)},
		{text("TRUE"), fail(api.EValue)},
		{text("#N/A"), fail(api.EValue)},
		{text("'2"), fail(api.EValue)},
		{text("1e400"), fail(api.ENum)},
		{text(" 1e400 "), fail(api.ENum)},
		{text("-1e-400"), fail(api.ENum)},
		{text("92233720368547758081"), fail(api.ENum)},
		{text("1e-19"), fail(api.ENum)},
	} {
		is(t, val.Num(x.v), x.want, "Num", x.v)
	}
}

func TestText(t *testing.T) {
	for _, x := range []struct{ v, want api.Value }{
		{empty, text("")},
		{truth(true), text("TRUE")},
		{truth(false), text("FALSE")},
		{num(0, 0), text("0")},
		{num(12, 1), text("120")},
		{num(5, -3), text("0.005")},
		{num(-15, -1), text("-1.5")},
		{num(least, 18), text("-9223372036854775808000000000000000000")},
		{num(least, -18), text("-9.223372036854775808")},
		{text(""), text("")},
		{text(" aB "), text(" aB ")},
		{text("1.50"), text("1.50")},
		{text("'x"), text("'x")},
		{text("true"), text("true")},
		{text(long(255)), text(long(255))},
	} {
		is(t, val.Text(x.v), x.want, "Text", x.v)
	}
}

func TestBool(t *testing.T) {
	for _, x := range []struct{ v, want api.Value }{
		{empty, truth(false)},
		{truth(true), truth(true)},
		{truth(false), truth(false)},
		{num(0, 0), truth(false)},
		{num(1, 0), truth(true)},
		{num(-1, 0), truth(true)},
		{num(1, -18), truth(true)},
		{num(-1, 18), truth(true)},
		{num(1, 1), truth(true)},
		{text("TRUE"), truth(true)},
		{text("true"), truth(true)},
		{text("tRuE"), truth(true)},
		{text("FALSE"), truth(false)},
		{text("false"), truth(false)},
		{text("fAlSe"), truth(false)},
		{text(""), fail(api.EValue)},
		{text(" "), fail(api.EValue)},
		{text("0"), fail(api.EValue)},
		{text("1"), fail(api.EValue)},
		{text(" TRUE"), fail(api.EValue)},
		{text("TRUE "), fail(api.EValue)},
		{text("FALSE "), fail(api.EValue)},
		{text("TRU"), fail(api.EValue)},
		{text("TRUEX"), fail(api.EValue)},
		{text("T"), fail(api.EValue)},
		{text("yes"), fail(api.EValue)},
		{text("falſe"), fail(api.EValue)},
		{text("'TRUE"), fail(api.EValue)},
	} {
		is(t, val.Bool(x.v), x.want, "Bool", x.v)
	}
}

func TestErrorsAreThemselves(t *testing.T) {
	for i := range names {
		v := fail(i + 1)
		is(t, val.Num(v), v, "Num", v)
		is(t, val.Text(v), v, "Text", v)
		is(t, val.Bool(v), v, "Bool", v)
	}
}

// P1305

func TestTyped(t *testing.T) {
	for s, want := range map[string]api.Value{
		"":                     empty,
		"0":                    num(0, 0),
		"-0":                   num(0, 0),
		"12":                   num(12, 0),
		"-12":                  num(-12, 0),
		"0012":                 num(12, 0),
		"1.50":                 num(15, -1),
		"-0.005":               num(-5, -3),
		"1e3":                  num(1, 3),
		"1E3":                  num(1, 3),
		"1e+3":                 num(1, 3),
		"1E-3":                 num(1, -3),
		"1.5e003":              num(15, 2),
		"9223372036854775807":  num(greatest, 0),
		"-9223372036854775808": num(least, 0),
		"9223372036854775808":  text("9223372036854775808"),
		"1e400":                text("1e400"),
		"-1e-19":               text("-1e-19"),
		"1e1000":               text("1e1000"),
		" 12":                  text(" 12"),
		"12 ":                  text("12 "),
		"+12":                  text("+12"),
		"1.":                   text("1."),
		".5":                   text(".5"),
		"1%":                   text("1%"),
		"TRUE":                 truth(true),
		"FALSE":                truth(false),
		"true":                 text("true"),
		"False":                text("False"),
		" TRUE":                text(" TRUE"),
		"FALSE ":               text("FALSE "),
		"#DIV/0!":              fail(api.EDiv),
		"#VALUE!":              fail(api.EValue),
		"#REF!":                fail(api.ERef),
		"#NAME?":               fail(api.EName),
		"#NUM!":                fail(api.ENum),
		"#N/A":                 fail(api.ENA),
		"#CYCLE!":              fail(api.ECycle),
		"#n/a":                 text("#n/a"),
		"#REF":                 text("#REF"),
		"#REF! ":               text("#REF! "),
		"'":                    text(""),
		"''":                   text("'"),
		"'''":                  text("''"),
		"'12":                  text("12"),
		"''12":                 text("'12"),
		"' 12":                 text(" 12"),
		" '12":                 text(" '12"),
		"12'":                  text("12'"),
		"'TRUE":                text("TRUE"),
		"'#N/A":                text("#N/A"),
		"'x'":                  text("x'"),
		"x":                    text("x"),
		" ":                    text(" "),
		"=1":                   text("=1"),
		"=":                    text("="),
		"a\tb\nc\r":            text("a\tb\nc\r"),
		"\"x\"":                text("\"x\""),
		"’x":                   text("’x"),
	} {
		is(t, val.Typed(s), want, "Typed", s)
	}
}

func TestTypedTooLong(t *testing.T) {
	one := strings.Repeat("0", 255) + "1"
	for _, x := range []struct {
		s    string
		want api.Value
	}{
		{long(255), text(long(255))},
		{long(256), fail(api.EValue)},
		{"'" + long(254), text(long(254))},
		{"'" + long(255), text(long(255))},
		{"'" + long(256), fail(api.EValue)},
		{"''" + long(254), text("'" + long(254))},
		{"''" + long(255), fail(api.EValue)},
		{one[1:], num(1, 0)},
		{one, fail(api.EValue)},
		{"'" + one[1:], text(one[1:])},
		{"'" + one, fail(api.EValue)},
	} {
		is(t, val.Typed(x.s), x.want, "Typed", x.s)
	}
	for _, s := range never {
		is(t, val.Typed(s), fail(api.EValue), "Typed", s)
		is(t, val.Typed("'"+s), fail(api.EValue), "Typed", s)
		is(t, val.Typed("1"+s), fail(api.EValue), "Typed", s)
	}
}

// TestTypedShort asks all short texts of the signs that count.
func TestTypedShort(t *testing.T) {
	texts := []string{""}
	for range 5 {
		for _, s := range texts {
			stop(t)
			is(t, val.Typed(s), modelTyped(s), "Typed", s)
			is(t, val.Num(val.Str(s)), modelNum(text(s)), "Num", s)
		}
		var longer []string
		for _, s := range texts {
			for _, sign := range []string{"0", "1", ".", "-", "+", "e", "E", "'", " ", "\t", "x"} {
				longer = append(longer, s+sign)
			}
		}
		texts = longer
	}
}

func TestShow(t *testing.T) {
	for want, v := range map[string]api.Value{
		"": empty, "TRUE": truth(true), "FALSE": truth(false), "0": num(0, 0), "120": num(12, 1), "-0.005": num(-5, -3), "x": text("x"), " 'x": text(" 'x"), "true": text("true"), long(255): text(long(255)),
	} {
		is(t, val.Show(v), want, "Show", v)
	}
	is(t, val.Show(text("")), "", "Show of the empty text")
	is(t, val.Show(text("#N/A")), "#N/A", "Show of a text that is an error's name")
	is(t, val.Show(text("12")), "12", "Show of a text that is a number's")
	for i, name := range names {
		is(t, val.Show(fail(i+1)), name, "Show", name)
	}
}

// P1306

// TestTypedOfShow asks of all numbers that end in a few digits, at every place, and of any.
func TestTypedOfShow(t *testing.T) {
	back := func(v api.Value) {
		stop(t)
		if val.Right(v) && v.Kind != api.VText {
			is(t, val.Typed(val.Show(v)), v, "Typed of Show", v)
		}
	}
	for _, v := range rightValues() {
		back(v)
	}
	for e := -api.MaxExp; e <= api.MaxExp; e++ {
		for c := range int64(200) {
			for _, from := range []int64{-100, greatest - 199, least} {
				d, _ := dec.Make(from+c, e)
				back(num(d.C, d.E))
			}
		}
	}
	r := rand.New(rand.NewSource(1306))
	for range 50000 {
		back(anyValue(r))
	}
}
