package numfmt_test

import (
	"math/rand"
	"strings"
	"testing"

	"quire/api"
	"quire/dec"
	"quire/numfmt"
	"quire/val"
)

// shows asks how numbers are displayed by the code: pairs of a number and what is displayed.
func shows(t *testing.T, code string, pairs ...string) {
	t.Helper()
	for i := 0; i < len(pairs); i += 2 {
		v := val.Typed(pairs[i])
		is(t, v.Kind, api.VNum, "Kind", pairs[i])
		is(t, numfmt.Render(code, v), pairs[i+1], "Render", code, pairs[i])
	}
}

// P1402

func TestRenderExamples(t *testing.T) {
	shows(t, "#,##0.00", "1234.5", "1,234.50")
	shows(t, "0%", "0.256", "26%")
	shows(t, "0;(0)", "-3", "(3)")
	shows(t, `"x"0.#`, "2", "x2.")
	shows(t, "#", "0", "")
	shows(t, ";;;@!", "2", "2")
	is(t, numfmt.Render(";;;@!", text("a")), "a", "Render")
}

// TestRenderShown asks what no code changes: what is empty, bools, errors, and what is not right.
func TestRenderShown(t *testing.T) {
	shown := map[api.Value]string{{}: "", {Kind: api.VBool}: "FALSE", {Kind: api.VBool, B: true}: "TRUE"}
	for code, name := range []string{"#DIV/0!", "#VALUE!", "#REF!", "#NAME?", "#NUM!", "#N/A", "#CYCLE!"} {
		shown[api.Value{Kind: api.VErr, E: code + 1}] = name
	}
	for _, v := range []api.Value{num(10, 0), num(0, 5), num(1, 19), num(1, -19), {Kind: api.VNum, S: "a"}, {Kind: api.VNum, E: 1}, text("\x00"), text("\xff"), text(strings.Repeat("a", 256)), {Kind: api.VText, B: true}, {Kind: api.VErr}, {Kind: api.VErr, E: 8}, {Kind: 5}, {Kind: -1}, {S: "a"}, {N: api.Dec{C: 1}}} {
		shown[v] = "#VALUE!"
	}
	for _, code := range codes {
		for v, want := range shown {
			is(t, numfmt.Render(code, v), want, "Render", code, v)
		}
	}
}

func TestRenderNoCode(t *testing.T) {
	for _, code := range []string{"x", "0#", `"`, `\`, "@", ";;;;", ";;;0", "0;\x1f", "0%%%%%", "0." + strings.Repeat("0", 19), strings.Repeat("0", 21), strings.Repeat(" ", 65), "general", "General"} {
		shows(t, code, "0", "0", "-3", "-3", "1234.5", "1234.5", "-0.256", "-0.256", "1e20", "100000000000000000000")
		is(t, numfmt.Render(code, text("a")), "a", "Render", code)
		is(t, numfmt.Render(code, text("")), "", "Render", code)
	}
}

func TestRenderTexts(t *testing.T) {
	for _, code := range []string{"", "0", "0.00%", `"x"`, "0;0", "0;0;0", ";;", `;;"x"`} {
		for _, s := range []string{"", "a", "12", " ñ ", "@", strings.Repeat("a", 255)} {
			is(t, numfmt.Render(code, text(s)), s, "Render", code, s)
		}
	}
	for code, want := range map[string]string{";;;": "", ";;;@": "ab", `0;0;0;"<"@">"`: "<ab>", ";;;@@": "abab", ";;;(@ @)": "(ab ab)", `;;;"x"`: "x", `;;;\@`: "@", `;;;"@"@`: "@ab"} {
		is(t, numfmt.Render(code, text("ab")), want, "Render", code)
	}
	is(t, numfmt.Render(";;;@@", text("@")), "@@", "Render")
	is(t, numfmt.Render(";;;-@-", text("")), "--", "Render")
	long := strings.Repeat("a", 255)
	is(t, numfmt.Render(";;;"+strings.Repeat("@", 61), text(long)), strings.Repeat(long, 61), "Render")
	is(t, numfmt.Render(`;;;"<"@">"`, text("12")), "<12>", "Render")
}

func TestRenderSections(t *testing.T) {
	shows(t, "0.0", "2", "2.0", "-2", "-2.0", "0", "0.0")
	shows(t, "0;(0)", "2", "2", "-2", "(2)", "0", "0")
	shows(t, `"p"0;"m"0;"z"0`, "2", "p2", "-2", "m2", "0", "z0")
	shows(t, `"p"0;"m"0;"z"0;"t"@`, "2", "p2", "-2", "m2", "0", "z0")
	shows(t, "0;", "2", "2", "-2", "", "0", "0")
	shows(t, ";0", "2", "", "-2", "2", "0", "")
	shows(t, "0;;", "2", "2", "-2", "", "0", "")
	shows(t, ";;", "2", "", "-2", "", "0", "")
	shows(t, ";;;", "2", "", "-2", "", "0", "")
	shows(t, "0%;0.0;0", "0.5", "50%", "-0.5", "0.5", "0", "0")
	shows(t, "0;-0", "-5", "-5")
}

// TestRenderRoundedToNought asks that the section hangs on the number, and the sign on what is rounded.
func TestRenderRoundedToNought(t *testing.T) {
	shows(t, "0", "-0.4", "0", "-0.5", "-1", "0.4", "0", "0.5", "1")
	shows(t, "0.00", "-0.004", "0.00", "-0.005", "-0.01", "0.004", "0.00")
	shows(t, "#", "-0.4", "", "0.4", "", "-0.5", "-1")
	shows(t, "0%", "-0.004", "0%", "-0.005", "-1%")
	shows(t, "0;(0)", "-0.4", "(0)", "0.4", "0")
	shows(t, `"p"0;"m"0;"z"0`, "0.4", "p0", "-0.4", "m0")
}

func TestRenderRounding(t *testing.T) {
	shows(t, "0", "2.5", "3", "-2.5", "-3", "2.49", "2", "9.5", "10", "99.5", "100", "-999.5", "-1000")
	shows(t, "0.0", "0.05", "0.1", "0.04", "0.0", "9.95", "10.0", "1.25", "1.3")
	shows(t, "#,##0", "999.5", "1,000", "999999.5", "1,000,000")
	shows(t, "0.00%", "0.12345", "12.35%", "0.99995", "100.00%", "0.99994", "99.99%")
	shows(t, "0.000000000000000000", "1e-18", "0.000000000000000001", "-1e-18", "-0.000000000000000001")
	shows(t, "0.00000000000000000", "1e-18", "0.00000000000000000", "5e-18", "0.00000000000000001")
}

// TestRenderNotTold asks what can't be told once it has no sign, or is times 100.
func TestRenderNotTold(t *testing.T) {
	show := func(c int64, e int) string { return dec.Print(api.Dec{C: c, E: e}) }
	is(t, numfmt.Render("0%", num(greatest, 18)), show(greatest, 18), "Render")
	is(t, numfmt.Render("0%", num(-greatest, 18)), show(-greatest, 18), "Render")
	is(t, numfmt.Render("0%", num(greatest, 17)), show(greatest, 17), "Render")
	is(t, numfmt.Render("0%", num(greatest, 16)), show(greatest, 18)+"%", "Render")
	is(t, numfmt.Render("0%", num(-greatest, 16)), show(-greatest, 18)+"%", "Render")
	is(t, numfmt.Render("0%%%%", num(greatest, 10)), show(greatest, 18)+"%%%%", "Render")
	is(t, numfmt.Render("0%%%%", num(greatest, 11)), show(greatest, 11), "Render")
	is(t, numfmt.Render("%", num(greatest, 18)), show(greatest, 18), "Render")
	is(t, numfmt.Render("0%;(0)", num(greatest, 18)), show(greatest, 18), "Render")
	is(t, numfmt.Render("0%;(0)", num(-greatest, 18)), "("+show(greatest, 18)+")", "Render")
	is(t, numfmt.Render("0%", num(92233720368547758, 18)), show(92233720368547758, 18)+"00%", "Render")
	is(t, numfmt.Render("0%", num(92233720368547759, 18)), show(92233720368547759, 18), "Render")
	for _, code := range []string{"0", "0.00", "0;(0)", "#,##0%", `"x"`, ""} {
		for _, e := range []int{-18, -1, 0, 18} {
			is(t, numfmt.Render(code, num(least, e)), show(least, e), "Render", code, e)
		}
	}
	is(t, numfmt.Render("0", num(least+1, 0)), "-9223372036854775807", "Render")
}

func TestRenderPercent(t *testing.T) {
	shows(t, "0%", "0", "0%", "1", "100%", "0.5", "50%", "-0.256", "-26%", "12", "1200%")
	shows(t, "%0", "0.5", "%50", "-0.5", "-%50")
	shows(t, "0%%", "0.5", "5000%%")
	shows(t, "%0%", "0.0001", "%1%")
	shows(t, "%%0.0%%", "0.000000012345", "%%1.2%%", "2", "%%200000000.0%%")
	shows(t, `0"%"`, "0.5", "1%", "2", "2%")
	shows(t, `0\%`, "2", "2%")
	shows(t, "#%", "0.001", "%", "0.5", "50%")
	shows(t, "%", "0.5", "%", "-0.5", "-%", "-0.001", "%")
}

func TestRenderWhole(t *testing.T) {
	shows(t, "0", "7", "7", "123", "123", "0", "0", "-123", "-123")
	shows(t, "000", "7", "007", "0", "000", "1234", "1234", "-7", "-007", "0.4", "000")
	shows(t, "#00", "7", "07", "123", "123", "1234", "1234")
	shows(t, "#", "7", "7", "0", "", "123", "123", "-7", "-7", "10", "10")
	shows(t, "###", "7", "7", "0", "")
	shows(t, "#.0", "0.5", ".5", "-0.5", "-.5", "0", ".0", "1.5", "1.5", "0.96", "1.0", "10", "10.0")
	shows(t, "#.#", "0", ".", "0.5", ".5", "2", "2.")
	shows(t, "#0.0", "0.5", "0.5")
	shows(t, "00000000000000000000", "7", "00000000000000000007")
	shows(t, "0", "1e36", "1"+strings.Repeat("0", 36))
}

func TestRenderGroup(t *testing.T) {
	shows(t, "#,##0", "0", "0", "1", "1", "12", "12", "123", "123", "1234", "1,234", "12345", "12,345", "123456", "123,456", "1234567", "1,234,567", "-1234", "-1,234", "-123", "-123")
	shows(t, "0,000", "5", "0,005", "0", "0,000", "12345", "12,345")
	shows(t, "000,000,000", "1234", "000,001,234")
	shows(t, "0,000,000", "0", "0,000,000")
	shows(t, "00,00", "1", "0,001")
	shows(t, "#,#", "0", "", "999", "999", "1000", "1,000", "1000000", "1,000,000")
	shows(t, "0,0,0", "1", "001", "1234", "1,234")
	shows(t, "#,##0.00", "1234567.891", "1,234,567.89", "-999.999", "-1,000.00", "0.1", "0.10")
	shows(t, "#,##0.0000", "1234.5678", "1,234.5678")
	shows(t, "#,#.000000", "0.123456", ".123456")
	shows(t, "#,##0%", "12.34", "1,234%")
	shows(t, "#,##0", "1e36", "1"+strings.Repeat(",000", 12), "1e18", "1"+strings.Repeat(",000", 6))
}

func TestRenderPart(t *testing.T) {
	shows(t, "0.00", "1", "1.00", "1.5", "1.50", "1.25", "1.25", "1.256", "1.26")
	shows(t, "0.0##", "1", "1.0", "1.5", "1.5", "1.25", "1.25", "1.256", "1.256", "1.2564", "1.256", "1.205", "1.205", "1.2996", "1.3")
	shows(t, "0.00##", "1.5", "1.50", "1.5005", "1.5005", "1.00004", "1.00")
	shows(t, "0.##", "1", "1.", "1.5", "1.5", "1.05", "1.05", "0", "0.")
	shows(t, "0.", "1.5", "2.", "1", "1.", "-0.4", "0.")
	shows(t, "0.0", "100", "100.0", "0.04", "0.0")
	shows(t, "0.000000000000000000", "0.1", "0.100000000000000000")
	shows(t, "0.##################", "0.1", "0.1", "1e-18", "0.000000000000000001")
}

func TestRenderNoDigits(t *testing.T) {
	shows(t, "", "2", "", "-2", "-", "0", "", "-0.4", "", "-0.5", "-")
	shows(t, `"x"`, "2", "x", "-2", "-x", "0", "x", "-0.4", "x")
	shows(t, `"a";"b"`, "2", "a", "-2", "b", "0", "a")
	shows(t, `"a";"b";"c"`, "2", "a", "-2", "b", "0", "c")
	shows(t, `0;"below"`, "-2", "below")
}

func TestRenderLiterals(t *testing.T) {
	shows(t, "$0.00", "3", "$3.00", "-3", "-$3.00")
	shows(t, "($0)", "3", "($3)", "-3", "-($3)")
	shows(t, `"a;b"0\c`, "3", "a;b3c")
	shows(t, `"1"0"2"`, "3", "132")
	shows(t, "+0 / : -", "3", "+3 / : -")
	shows(t, `"@"0\@`, "3", "@3@")
}

// P1404

// TestRenderReadAgain asks that 0.00 loses nothing of what has two places at most.
func TestRenderReadAgain(t *testing.T) {
	r := rand.New(rand.NewSource(1404))
	again := func(c int64, e int) {
		t.Helper()
		stop(t)
		d, fault := dec.Make(c, e)
		if fault != api.OK {
			return
		}
		shown := numfmt.Render("0.00", api.Value{Kind: api.VNum, N: d})
		got, fault := dec.Parse(shown)
		is(t, fault, api.OK, "Parse", shown)
		is(t, got, d, "Parse", shown)
		is(t, val.Typed(shown), api.Value{Kind: api.VNum, N: d}, "Typed", shown)
	}
	for _, c := range []int64{0, 1, -1, 5, -5, 10, 99, -99, 100, 101, greatest, least, least + 1, greatest - 7} {
		for e := -2; e <= api.MaxExp; e++ {
			again(c, e)
		}
	}
	for range 50000 {
		again(int64(r.Uint64())>>r.Intn(64), r.Intn(api.MaxExp+3)-2)
	}
}

// TestRenderDigitsAlone asks that what is rendered by a code without digits in its literals has the number's alone: without noughts ahead and behind, commas and point they are those of the number, rounded.
func TestRenderDigitsAlone(t *testing.T) {
	r := rand.New(rand.NewSource(1405))
	signs := strings.NewReplacer(",", "", ".", "", "$", "", " ", "", "-", "", "(", "", ")", "", "%", "")
	for range 50000 {
		stop(t)
		s := anyFigures(r)
		places := strings.Count(s[strings.IndexByte(s+".", '.'):], "0") + strings.Count(s[strings.IndexByte(s+".", '.'):], "#")
		code := anyOf(r, "", "$", "(", " ") + s + anyOf(r, "", ")", " ", "%")
		v := anyNumber(r)
		n := v.N
		if strings.HasSuffix(code, "%") {
			n, _ = dec.Mul(n, api.Dec{C: 100})
		}
		if _, told := dec.Neg(v.N); told != api.OK || n == (api.Dec{}) || s == "" {
			continue
		}
		n, _ = dec.Round(n, places)
		want := strings.Trim(signs.Replace(dec.Print(n)), "0")
		is(t, strings.Trim(signs.Replace(numfmt.Render(code, v)), "0"), want, "Render", code, v)
	}
}
