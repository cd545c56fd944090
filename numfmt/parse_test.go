package numfmt_test

import (
	"math"
	"slices"
	"strings"
	"testing"

	"quire/api"
	"quire/numfmt"
)

// parses asks that the code has just these sections.
func parses(t *testing.T, code string, want ...numfmt.Section) {
	t.Helper()
	got, fault := numfmt.Parse(code)
	is(t, fault, api.OK, "Parse", code)
	if !slices.Equal(got, want) {
		t.Errorf("Parse %q: %+v, not %+v", code, got, want)
	}
}

// fails asks that each code is refused with the error, and without a section.
func fails(t *testing.T, want api.Errno, all ...string) {
	t.Helper()
	for _, code := range all {
		got, fault := numfmt.Parse(code)
		is(t, fault, want, "Parse", code)
		is(t, len(got), 0, "sections of", code)
	}
}

// lone is a section of one digit, which is a nought, with a head and a tail.
func lone(before, after string) numfmt.Section {
	return numfmt.Section{Before: before, After: after, Whole: 1, Zeros: 1, Digits: true}
}

// said is a section without digits.
func said(before string) numfmt.Section { return numfmt.Section{Before: before} }

// textual is the fourth section.
func textual(before string) numfmt.Section { return numfmt.Section{Before: before, Text: true} }

// P1401

func TestParseGeneral(t *testing.T) {
	parses(t, "General")
	fails(t, api.ErrSyntax, "general", "GENERAL", "General ", " General", "General;", ";General", "General;General", "0;General", "Genera", "Generall", "General0", "General%")
	parses(t, `"General"`, said("General"))
}

func TestParseSections(t *testing.T) {
	parses(t, "", said(""))
	parses(t, ";", said(""), said(""))
	parses(t, ";;", said(""), said(""), said(""))
	parses(t, ";;;", said(""), said(""), said(""), textual(""))
	fails(t, api.ErrSyntax, ";;;;", ";;;;;", "0;0;0;@;", "0;0;0;@;@", "0;0;0;;0", strings.Repeat(";", 64))
	parses(t, "0", lone("", ""))
	parses(t, "0;-0", lone("", ""), lone("-", ""))
	parses(t, "0;;0", lone("", ""), said(""), lone("", ""))
	parses(t, ";0;", said(""), lone("", ""), said(""))
	parses(t, "0;-0;$0;@", lone("", ""), lone("-", ""), lone("$", ""), textual("\x00"))
	parses(t, "0 ; (0)", lone("", " "), lone(" (", ")"))
}

func TestParseLiterals(t *testing.T) {
	const signs = " $-+()/:"
	parses(t, signs+"0"+signs, lone(signs, signs))
	parses(t, signs, said(signs))
	parses(t, ";;;"+signs, said(""), said(""), said(""), textual(signs))
	for b := range 256 {
		sign := string([]byte{byte(b)})
		switch {
		case strings.Contains(signs, sign):
			parses(t, sign, said(sign))
			parses(t, sign+"0", lone(sign, ""))
			parses(t, "0"+sign, lone("", sign))
		case !strings.Contains(`"\%;0#.,`, sign):
			fails(t, api.ErrSyntax, sign, sign+"0", "0"+sign, "0.0"+sign, ";"+sign, "0;0"+sign+";0")
		}
	}
}

func TestParseQuotes(t *testing.T) {
	parses(t, `"x"`, said("x"))
	parses(t, `"x"0"yz"`, lone("x", "yz"))
	parses(t, `""`, said(""))
	parses(t, `""0""`, lone("", ""))
	parses(t, `"a""b"`, said("ab"))
	parses(t, `"a;b"`, said("a;b"))
	parses(t, `";";";"0`, said(";"), lone(";", ""))
	parses(t, `"0"0"0"`, lone("0", "0"))
	parses(t, `"#,##0.00"`, said("#,##0.00"))
	parses(t, `"\"0`, lone(`\`, ""))
	parses(t, `"\""x"`, said(`\x`))
	parses(t, `"@"`, said("@"))
	parses(t, `"%"`, said("%"))
	parses(t, `"%%%%%%"0`, lone("%%%%%%", ""))
	parses(t, `"x" "y"`, said("x y"))
	fails(t, api.ErrSyntax, `"`, `"x`, `x"`, `0"`, `0"x`, `"""`, `"a""`, `"x"0"`, `";`, `0;"`, `;;;"`, `"0;0`, `;;;"@`)
}

func TestParseBackslash(t *testing.T) {
	for b := 0x20; b <= 0x7e; b++ {
		sign := string([]byte{byte(b)})
		parses(t, `\`+sign, said(sign))
		parses(t, `\`+sign+`0\`+sign, lone(sign, sign))
		parses(t, `;;;\`+sign, said(""), said(""), said(""), textual(sign))
	}
	parses(t, `\;;\;`, said(";"), said(";"))
	parses(t, `\"0\"`, lone(`"`, `"`))
	parses(t, `\\\x`, said(`\x`))
	parses(t, `\%\%\%\%\%`, said("%%%%%"))
	parses(t, `\a0`, lone("a", ""))
	fails(t, api.ErrSyntax, `\`, `0\`, `\\\`, `0;\`, `;;;\`, `"x"\`, `\ab`)
}

func TestParseBytes(t *testing.T) {
	for b := range 256 {
		if b >= 0x20 && b <= 0x7e {
			continue
		}
		sign := string([]byte{byte(b)})
		fails(t, api.ErrSyntax, sign, `"`+sign+`"`, `"a`+sign+`b"0`, `\`+sign, `0\`+sign, ";;;"+sign, `;;;"`+sign+`"`, `;;;\`+sign)
	}
	fails(t, api.ErrSyntax, `"ñ"`, `"`+"\u20ac"+`"0`, "\u00a00")
	for b := 0x20; b <= 0x7e; b++ {
		if b != '"' {
			sign := string([]byte{byte(b)})
			parses(t, `"`+sign+`"`, said(sign))
		}
	}
}

func TestParseBytesMost(t *testing.T) {
	quoted := func(n int) string { return `"` + strings.Repeat("a", n-2) + `"` }
	parses(t, quoted(64), said(strings.Repeat("a", 62)))
	parses(t, ";;;"+strings.Repeat("@", 61), said(""), said(""), said(""), textual(strings.Repeat("\x00", 61)))
	fails(t, api.ErrBig, quoted(65), quoted(66), quoted(1<<20), ";;;"+strings.Repeat("@", 62))
	fails(t, api.ErrBig, strings.Repeat("x", 65), strings.Repeat("\x00", 65), strings.Repeat(";", 65), strings.Repeat("\xff", 1<<16), `"`+strings.Repeat("a", 64), "General"+strings.Repeat(" ", 58))
	fails(t, api.ErrSyntax, strings.Repeat("x", 64), `"`+strings.Repeat("a", 63), "General"+strings.Repeat(" ", 57), strings.Repeat("ñ", 32))
}

func TestParseDigits(t *testing.T) {
	type want = numfmt.Section
	for code, s := range map[string]want{
		"#":       {Whole: 1},
		"##":      {Whole: 2},
		"0":       {Whole: 1, Zeros: 1},
		"000":     {Whole: 3, Zeros: 3},
		"#0":      {Whole: 2, Zeros: 1},
		"##00":    {Whole: 4, Zeros: 2},
		"0.":      {Whole: 1, Zeros: 1, Point: true},
		"#.":      {Whole: 1, Point: true},
		"0.0":     {Whole: 1, Zeros: 1, Point: true, Part: 1, PartZero: 1},
		"0.#":     {Whole: 1, Zeros: 1, Point: true, Part: 1},
		"#.0##":   {Whole: 1, Point: true, Part: 3, PartZero: 1},
		"#0.00#":  {Whole: 2, Zeros: 1, Point: true, Part: 3, PartZero: 2},
		"0,0":     {Whole: 2, Zeros: 2, Group: true},
		"#,#":     {Whole: 2, Group: true},
		"#,0":     {Whole: 2, Zeros: 1, Group: true},
		"#,##0":   {Whole: 4, Zeros: 1, Group: true},
		"#,#,0,0": {Whole: 4, Zeros: 2, Group: true},
		"0,000.0": {Whole: 4, Zeros: 4, Group: true, Point: true, Part: 1, PartZero: 1},
		"#,#.":    {Whole: 2, Group: true, Point: true},
	} {
		s.Digits = true
		parses(t, code, s)
		parses(t, "0;"+code, lone("", ""), s)
		parses(t, ";;"+code, said(""), said(""), s)
		s.Before, s.After = "(", ")"
		parses(t, "("+code+")", s)
		s.Percent, s.Before = 1, "%("
		parses(t, "%("+code+")", s)
	}
}

func TestParseDigitsWrong(t *testing.T) {
	for _, code := range []string{
		"0#", "#0#", "00#0", "0,#", "0.#0", "0.0#0", "#.#0#",
		",", ",0", ",#", "0,", "#,", "0,,0", "#,,#", "#,##0,", ",#,0", "0,.0", "#,.", "0.,", "0.0,0", "0.0,", "0.,0", ",.",
		".", ".0", ".#", "..", "0..", "0..0", "0.0.0", "0.0.", ".0.0",
		"0 0", "0 #", "#(0)", `0"x"0`, "0%0", `0\x0`, "0.0 0", "0.0 .0", "0 .0", "0 ,0", "0.#(0", "#%#",
		"@", "0@", "@0", "0.@", "1", "9", "0E+0", "?", "0_)", "*", "[Red]0", "a", "x",
	} {
		fails(t, api.ErrSyntax, code, code+";0", "0;"+code, "0;0;"+code, ";;;"+code+"x", "("+code+")")
	}
}

func TestParseFourth(t *testing.T) {
	parses(t, ";;;@", said(""), said(""), said(""), textual("\x00"))
	parses(t, ";;;@@ @", said(""), said(""), said(""), textual("\x00\x00 \x00"))
	parses(t, `;;;"x"`, said(""), said(""), said(""), textual("x"))
	parses(t, `;;;"<"@\>(`, said(""), said(""), said(""), textual("<\x00>("))
	parses(t, `;;;\@"@"@`, said(""), said(""), said(""), textual("@@\x00"))
	parses(t, `;;;"0%;"\%\0`, said(""), said(""), said(""), textual("0%;%0"))
	fails(t, api.ErrSyntax, ";;;0", ";;;#", ";;;@0", ";;;0@", ";;;0.0", ";;;.", ";;;,", ";;;%", ";;;@%", ";;;%@", ";;;x", ";;;@!")
	fails(t, api.ErrSyntax, "@", "@;", ";@", ";;@", "@;;;", ";@;;", ";;@;@", "0@;;;@")
}

func TestParseMost(t *testing.T) {
	whole, part := strings.Repeat("0", 20), strings.Repeat("#", 18)
	parses(t, whole+"."+part, numfmt.Section{Whole: 20, Zeros: 20, Point: true, Part: 18, Digits: true})
	parses(t, "##########0000000000.0000000000########", numfmt.Section{Whole: 20, Zeros: 10, Point: true, Part: 18, PartZero: 10, Digits: true})
	parses(t, strings.Repeat("#,", 19)+"0", numfmt.Section{Whole: 20, Zeros: 1, Group: true, Digits: true})
	fails(t, api.ErrBig, whole+"0", "#"+whole, strings.Repeat("#,", 20)+"0", "0;"+whole+"0", ";;"+whole+"0", ";;"+whole+"0;@")
	fails(t, api.ErrBig, "0."+part+"#", "0.0"+part, "0."+strings.Repeat("0", 19), "#."+part+part, "0;0."+part+"#", ";;0.0"+part, ";;0.0"+part+";@")
	fails(t, api.ErrBig, whole+"0."+part+"#", strings.Repeat("0", 64), strings.Repeat("#", 21)+"%%%%%")
}

func TestParsePercent(t *testing.T) {
	for _, of := range [][2]string{{"", ""}, {"%", ""}, {"", "%"}, {"%", "%"}, {"%%%%", ""}, {"", "%%%%"}, {"%%", "%%"}, {"%", "%%%"}, {"%%%", "%"}} {
		s := lone(of[0], of[1])
		s.Percent = len(of[0]) + len(of[1])
		parses(t, of[0]+"0"+of[1], s)
		parses(t, "0;"+of[0]+"0"+of[1]+";", lone("", ""), s, said(""))
	}
	parses(t, "%", numfmt.Section{Before: "%", Percent: 1})
	parses(t, `%"a"% %\%%`, numfmt.Section{Before: "%a% %%%", Percent: 4})
	four := numfmt.Section{Before: "%%%%", Percent: 4}
	parses(t, "%%%%;%%%%;%%%%;", four, four, four, textual(""))
	fails(t, api.ErrBig, "%%%%%", "%%%%%0", "0%%%%%", "%%0%%%", "%%%%0%", "0;%%%0%%", "%%%%;%%%%;%%%%%", ";;%%%%%;@")
}

// TestParseBothWrong asks of what is no code and has too much: that it is none goes ahead.
func TestParseBothWrong(t *testing.T) {
	big := []string{strings.Repeat("0", 21), "0." + strings.Repeat("0", 19), "%%%%%"}
	for _, code := range big {
		fails(t, api.ErrBig, code)
		fails(t, api.ErrSyntax, code+"x", "x;"+code, code+";x", code+`"`, code+`\`, code+";;;0", code+";;;%", code+";;;;", code+"\x7f", code+";@", code+";0#", code+";.")
	}
	fails(t, api.ErrSyntax, strings.Repeat("0", 21)+"#", strings.Repeat("0", 21)+",", "0."+strings.Repeat("#", 19)+"0", ";;;%%%%%", ";;;"+strings.Repeat("0", 21))
	fails(t, api.ErrBig, strings.Repeat("0", 20)+strings.Repeat("#", 45), strings.Repeat("%", 64)+"x", strings.Repeat("x", 65))
}

// TestParseAnew asks that nobody sees what is written into an answer.
func TestParseAnew(t *testing.T) {
	got, _ := numfmt.Parse("0;(0)")
	for i := range got[:cap(got)] {
		got[:cap(got)][i] = said("x")
	}
	parses(t, "0;(0)", lone("", ""), lone("(", ")"))
	is(t, numfmt.Render("0;(0)", num(-3, 0)), "(3)", "Render")
}

// P1403

var builtins = map[int]string{0: "General", 1: "0", 2: "0.00", 3: "#,##0", 4: "#,##0.00", 9: "0%", 10: "0.00%"}

func TestBuiltin(t *testing.T) {
	for id := -300; id <= 300; id++ {
		code, there := numfmt.Builtin(id)
		want, wanted := builtins[id]
		is(t, code, want, "Builtin", id)
		is(t, there, wanted, "Builtin", id)
	}
	for _, id := range []int{math.MinInt, math.MaxInt, 1 << 32, 1<<32 + 1, -1 << 32} {
		code, there := numfmt.Builtin(id)
		is(t, code, "", "Builtin", id)
		is(t, there, false, "Builtin", id)
	}
}

func TestId(t *testing.T) {
	for id, code := range builtins {
		is(t, numfmt.Id(code), id, "Id", code)
		parsesAsModel(t, code)
	}
	for _, code := range []string{"", "x", "#", "00", "0.0", "0.000", "general", "General ", " General", "#,##0.0", "##0", "0,000", "%0", "0 %", "0.0%", "0%%", "@", ";", "0;0", "0 ", `"0"`, "\x00", strings.Repeat("0", 65)} {
		is(t, numfmt.Id(code), -1, "Id", code)
	}
	for _, code := range codes {
		if got, there := numfmt.Builtin(numfmt.Id(code)); there {
			is(t, got, code, "Builtin of Id", code)
		}
	}
}
