package book_test

import (
	"math"
	"math/rand"
	"strings"
	"testing"

	"quire/api"
	"quire/book"
	"quire/expr"
)

// typed asks what a text is that is typed.
func typed(t *testing.T, s string, want api.Input, fault api.Errno) {
	t.Helper()
	in, got := book.Typed(s)
	is(t, got, fault, "Typed", s)
	alike(t, in, want, "Typed", s)
}

// P1505

func TestTypedExamples(t *testing.T) {
	typed(t, "=1+2", with(api.Expr{Kind: api.XBin, Op: api.OAdd, Kids: []api.Expr{{Kind: api.XNum, V: num(1, 0)}, {Kind: api.XNum, V: num(2, 0)}}}), api.OK)
	typed(t, "=", value(text("=")), api.OK)
	typed(t, "x", value(text("x")), api.OK)
	is(t, book.Show(value(text("12"))), "'12", "Show")
}

func TestTypedValues(t *testing.T) {
	for s, want := range map[string]api.Value{
		"": {}, "12": num(12, 0), "-1.50": num(-15, -1), "1e3": num(1, 3), "TRUE": truth(true), "FALSE": truth(false), "true": text("true"),
		"#DIV/0!": wrong(api.EDiv), "#CYCLE!": wrong(api.ECycle), "#N/A": wrong(api.ENA), "#X!": text("#X!"),
		"'12": text("12"), "'": text(""), "''": text("'"), "''a": text("'a"), "'=1": text("=1"), "'==": text("=="), "'TRUE": text("TRUE"), "'#N/A": text("#N/A"),
		" =1": text(" =1"), " ": text(" "), "a=1": text("a=1"), "\"a\"": text("\"a\""),
		strings.Repeat("a", 255): text(strings.Repeat("a", 255)), strings.Repeat("a", 256): wrong(api.EValue), "'" + strings.Repeat("a", 255): text(strings.Repeat("a", 255)),
		"a\x00": wrong(api.EValue), "\xff": wrong(api.EValue),
	} {
		typed(t, s, value(want), api.OK)
	}
}

func TestTypedFormulas(t *testing.T) {
	for s, want := range map[string]api.Expr{
		"=A1":       {Kind: api.XRef, Ref: api.Ref{Col: 1, Row: 1}},
		"= A1 ":     {Kind: api.XRef, Ref: api.Ref{Col: 1, Row: 1}},
		"='a b'!A1": {Kind: api.XRef, Ref: api.Ref{Sheet: "a b", Col: 1, Row: 1}},
		"=tax":      {Kind: api.XName, Name: "tax"},
		"=TRUE":     {Kind: api.XBool, V: truth(true)},
		"=\"=\"":    {Kind: api.XText, V: text("=")},
		"=#REF!":    {Kind: api.XBad},
		"=12":       {Kind: api.XNum, V: num(12, 0)},
		"=1%":       {Kind: api.XPct, Kids: []api.Expr{{Kind: api.XNum, V: num(1, 0)}}},
		"=NA()":     {Kind: api.XCall, Name: "NA"},
	} {
		typed(t, s, with(want), api.OK)
	}
}

func TestTypedFaults(t *testing.T) {
	for s, fault := range map[string]api.Errno{
		"==": api.ErrSyntax, "= ": api.ErrSyntax, "==1": api.ErrSyntax, "=1+": api.ErrSyntax, "=(": api.ErrSyntax, "=1 2": api.ErrSyntax, "='": api.ErrSyntax, "='12": api.ErrSyntax, "=\"": api.ErrSyntax, "=#N/A": api.ErrSyntax, "=x()": api.ErrSyntax, "=?": api.ErrSyntax, "=\xff": api.ErrSyntax,
		"=A513": api.ErrRef, "=ZZ1": api.ErrRef, "=S!A0": api.ErrSyntax, "=1e400": api.ErrNum, "=\"\x01\"": api.ErrText,
		"=" + strings.Repeat("-", 32) + "1":                                api.ErrDeep,
		"=SUM(1" + strings.Repeat(",1", 32) + ")":                          api.ErrBig,
		"=" + strings.Repeat(" ", 512) + "1":                               api.ErrBig,
		"=\"" + strings.Repeat("a", 256) + "\"":                            api.ErrBig,
		"=SUM(" + strings.Repeat("SUM(1"+strings.Repeat(",1", 31)+"),", 6): api.ErrSyntax,
	} {
		typed(t, s, api.Input{}, fault)
	}
	typed(t, "="+strings.Repeat("-", 31)+"1", with(tree(strings.Repeat("-", 31)+"1")), api.OK)
	typed(t, "="+strings.Repeat(" ", 511)+"1", with(tree("1")), api.OK)
}

// TestTypedLonger asks formulas that are written longer than they were typed: up to the limit they are taken, beyond it not, though they can be read.
func TestTypedLonger(t *testing.T) {
	const some = `SUM(1E18,1E18,1E18,1E18,1E18,1E18,1E18,1E18,1E18,1E18,1E18,1E18,1E18,1E18,1E18,1E18,1E18,1E18,1E18,1E18,1E18,1E18,1E18,1E18,`
	for n := range 60 {
		s := some + `"` + strings.Repeat("a", n) + `")`
		long := len(s) + 24*(19-4)
		x, _, fault := expr.Parse(s)
		is(t, fault, api.OK, "Parse", s)
		if long <= api.MaxFormula {
			typed(t, "="+s, with(x), api.OK)
			is(t, len(book.Show(with(x))), 1+long, "bytes of Show", s)
			continue
		}
		typed(t, "="+s, api.Input{}, api.ErrBig)
		is(t, book.Show(with(x)), "=", "Show", s)
	}
	typed(t, "=SUM("+strings.Repeat("1E18,", 31)+"1E18)", api.Input{}, api.ErrBig)
}

func TestShow(t *testing.T) {
	for want, in := range map[string]api.Input{
		"": {}, "12": value(num(12, 0)), "-0.5": value(num(-5, -1)), "1000": value(num(1, 3)), "0": value(num(0, 0)),
		"TRUE": value(truth(true)), "FALSE": value(truth(false)), "#DIV/0!": value(wrong(api.EDiv)), "#CYCLE!": value(wrong(api.ECycle)),
		"x": value(text("x")), "=": value(text("=")), " ": value(text(" ")), "true": value(text("true")), "#X!": value(text("#X!")), " =1": value(text(" =1")), "a'": value(text("a'")),
		"'": value(text("")), "''": value(text("'")), "''a": value(text("'a")), "'''": value(text("''")), "''12": value(text("'12")), "''=1": value(text("'=1")),
		"'12": value(text("12")), "'1e3": value(text("1e3")), "'-0": value(text("-0")), "'TRUE": value(text("TRUE")), "'FALSE": value(text("FALSE")),
		"'#N/A": value(text("#N/A")), "'#REF!": value(text("#REF!")), "'=1": value(text("=1")), "'==": value(text("==")), "'= ": value(text("= ")), "'=1+": value(text("=1+")),
		"=1+2": formula(" 1 + 2 "), "=A1": formula("A1"), "=\"a\"": formula(`"a"`), "=#REF!": formula("#REF!"), "=-(2^2)": formula("-(2^2)"), "='a b'!A1": formula("'a b'!A1"), "=SUM(A1:B2,x)": formula("SUM( A1:B2 , (x))"),
	} {
		is(t, book.Show(in), want, "Show", in)
		typed(t, want, in, api.OK)
	}
}

// TestShowOdd asks inputs that are not right: a formula that is not is shown by the mark alone, a value as the error that it is taken for, which it is not.
func TestShowOdd(t *testing.T) {
	for name, in := range wrongInputs() {
		is(t, book.Show(in), modelShow(in), "Show", name)
	}
	is(t, book.Show(api.Input{Formula: true}), "=", "Show of no formula")
	is(t, book.Show(with(tooLong())), "=", "Show of a formula that is too long")
	is(t, book.Show(with(api.Expr{Kind: api.XNeg})), "=", "Show of a formula that is not right")
	is(t, book.Show(api.Input{Formula: true, V: num(1, 0), F: tree("A1")}), "=A1", "Show of both, as a formula")
	is(t, book.Show(api.Input{V: num(1, 0), F: tree("A1")}), "1", "Show of both, as a value")
	for _, v := range []api.Value{num(10, 0), {Kind: 7}, {S: "a"}, text("\x00"), wrong(9), {Kind: api.VErr, E: api.EValue, S: "a"}} {
		is(t, book.Show(value(v)), "'#VALUE!", "Show", v)
	}
	is(t, book.Show(value(wrong(api.EValue))), "#VALUE!", "Show")
}

// TestTypedShort holds all short texts of signs that count against the model, and asks that what comes is typed again by what is shown.
func TestTypedShort(t *testing.T) {
	signs := []string{"=", "'", "1", "-", "A", "x", "\"", " ", "(", ")", "%", ".", "TRUE", "#N/A", "#REF!", "!", ":"}
	var ask func(s string, more int)
	ask = func(s string, more int) {
		want, fault := modelTyped(s)
		typed(t, s, want, fault)
		if fault == api.OK {
			typed(t, book.Show(want), want, api.OK)
			is(t, book.Show(want), modelShow(want), "Show", s)
			typed(t, book.Show(value(text(s))), value(text(s)), api.OK)
		}
		stop(t)
		for _, sign := range signs {
			if more > 0 {
				ask(s+sign, more-1)
			}
		}
	}
	ask("", 4)
}

func TestTypedNew(t *testing.T) {
	a, _ := book.Typed("=SUM(A1,-B2%)")
	b, _ := book.Typed("=SUM(A1,-B2%)")
	apart(t, "Typed", a, b)
	was := memory(a)
	book.Show(a)
	is(t, memory(a), was, "Show left the input as it was")
}

// P1506

func TestTypedShow(t *testing.T) {
	r := rand.New(rand.NewSource(4))
	for range 30000 {
		in := anyInput(r)
		typed(t, book.Show(in), in, api.OK)
		is(t, book.Show(in), modelShow(in), "Show", in)
		stop(t)
	}
	for _, s := range someTexts {
		for _, more := range append(someTexts, strings.Repeat("'", 200), strings.Repeat("=", 200)) {
			in := value(text(s + more))
			typed(t, book.Show(in), in, api.OK)
			in = with(api.Expr{Kind: api.XText, V: text(s + more)})
			typed(t, book.Show(in), in, api.OK)
		}
	}
	for _, in := range []api.Input{value(num(math.MaxInt64, 18)), value(num(math.MinInt64+1, -18)), value(num(math.MinInt64, 0)), value(num(1, -18)), value(text(strings.Repeat("'", 255))), value(text(strings.Repeat("=", 255))), value(text(strings.Repeat("1", 255)))} {
		typed(t, book.Show(in), in, api.OK)
	}
}
