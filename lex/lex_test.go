package lex_test

import (
	"math/rand"
	"slices"
	"strings"
	"testing"

	"quire/api"
	"quire/cells"
	"quire/lex"
)

// P1101

func TestLex(t *testing.T) {
	reads(t, "SUM(A1:B2)*1.5%", name(0, "SUM"), mark(3, "("), ref(4, "", 1, 1, ""), mark(6, ":"), ref(7, "", 2, 2, ""), mark(9, ")"), mark(10, "*"), num(11, 15, -1), mark(14, "%"))
	reads(t, "'a b'!A1", ref(0, "a b", 1, 1, ""))
	reads(t, `"x""y"`, text(0, `x"y`))
	reads(t, "LOG10(1)", name(0, "LOG10"), mark(5, "("), num(6, 1, 0), mark(7, ")"))
	refuses(t, "LOG10", 0, api.ErrRef)
	reads(t, "1E", num(0, 1, 0), name(1, "E"))
	reads(t, `IF(A1>=10,"big","a ""b""")&S!$B$2`,
		name(0, "IF"), mark(2, "("), ref(3, "", 1, 1, ""), mark(5, ">="), num(7, 1, 1), mark(9, ","), text(10, "big"), mark(15, ","), text(16, `a "b"`), mark(25, ")"), mark(26, "&"), ref(27, "S", 2, 2, "cr"))
	reads(t, "-x^2 <> 'it''s'!A1:B2 / #REF!",
		mark(0, "-"), name(1, "x"), mark(2, "^"), num(3, 2, 0), mark(5, "<>"), ref(8, "it's", 1, 1, ""), mark(18, ":"), ref(19, "", 2, 2, ""), mark(22, "/"), bad(24))
	reads(t, "TRUE=FALSE", name(0, "TRUE"), mark(4, "="), name(5, "FALSE"))
	refuses(t, "1 ?", 2, api.ErrSyntax)
}

func TestBlanks(t *testing.T) {
	reads(t, "")
	reads(t, " ")
	reads(t, strings.Repeat(" ", 512))
	reads(t, "  1", num(2, 1, 0))
	reads(t, "1  ", num(0, 1, 0))
	reads(t, " 1   +  2 ", num(1, 1, 0), mark(5, "+"), num(8, 2, 0))
	reads(t, "1 2", num(0, 1, 0), num(2, 2, 0))
	reads(t, "1 E5", num(0, 1, 0), ref(2, "", 5, 5, ""))
	reads(t, "1E 5", num(0, 1, 0), name(1, "E"), num(3, 5, 0))
	reads(t, "1E+ 5", num(0, 1, 0), name(1, "E"), mark(2, "+"), num(4, 5, 0))
	reads(t, `"a" "b"`, text(0, "a"), text(4, "b"))
	reads(t, `" a  b "`, text(0, " a  b "))
	reads(t, "A 1", name(0, "A"), num(2, 1, 0))
	reads(t, "< >", mark(0, "<"), mark(2, ">"))
	reads(t, "< =", mark(0, "<"), mark(2, "="))
	refuses(t, "S !A1", 2, api.ErrSyntax)
	refuses(t, "S! A1", 0, api.ErrSyntax)
	refuses(t, "'a b' !A1", 0, api.ErrSyntax)
	refuses(t, "'a b'! A1", 0, api.ErrSyntax)
	refuses(t, "# REF!", 0, api.ErrSyntax)
	refuses(t, "1 .5", 2, api.ErrSyntax)
	refuses(t, "1. 5", 1, api.ErrSyntax)
	for _, s := range []string{"\t", "\n", "\r", "\v", "\f", "\u00a0", "\u0085", "\u2003", "\u3000", "\ufeff", "\x00"} {
		refuses(t, s, 0, api.ErrSyntax)
		refuses(t, "1"+s+"2", 1, api.ErrSyntax)
		refuses(t, "  "+s, 2, api.ErrSyntax)
		refuses(t, "1 "+s, 2, api.ErrSyntax)
	}
}

func TestLongest(t *testing.T) {
	for _, s := range []string{" ", "+", "?", `"`, "'", "a", "$", "1", "\xff", "#"} {
		refuses(t, strings.Repeat(s, api.MaxFormula+1), 0, api.ErrBig)
		refuses(t, strings.Repeat(s, 1<<20), 0, api.ErrBig)
	}
	refuses(t, strings.Repeat(" ", api.MaxFormula)+"1", 0, api.ErrBig)
	refuses(t, "?"+strings.Repeat(" ", api.MaxFormula), 0, api.ErrBig)
	refuses(t, strings.Repeat(" ", api.MaxFormula-1)+"?", api.MaxFormula-1, api.ErrSyntax)
	reads(t, strings.Repeat(" ", api.MaxFormula-1)+"1", num(api.MaxFormula-1, 1, 0))
	reads(t, strings.Repeat("a", api.MaxFormula), name(0, strings.Repeat("a", api.MaxFormula)))
	var want tokens
	for at := range api.MaxFormula {
		want = append(want, mark(at, "+"))
	}
	reads(t, strings.Repeat("+", api.MaxFormula), want...)
	refuses(t, strings.Repeat("+", api.MaxFormula-1)+"!", api.MaxFormula-1, api.ErrSyntax)
}

func TestNum(t *testing.T) {
	for s, want := range map[string]lex.Token{
		"0": num(0, 0, 0), "7": num(0, 7, 0), "10": num(0, 1, 1), "1234567890": num(0, 123456789, 1), "9223372036854775807": num(0, 9223372036854775807, 0),
		"00": num(0, 0, 0), "007": num(0, 7, 0), "00.50": num(0, 5, -1), strings.Repeat("0", 200) + "1": num(0, 1, 0), "0." + strings.Repeat("0", 200): num(0, 0, 0),
		"1.5": num(0, 15, -1), "0.25": num(0, 25, -2), "1.0": num(0, 1, 0), "12.340": num(0, 1234, -2), "0.000000000000000001": num(0, 1, -18),
		"1E5": num(0, 1, 5), "1e5": num(0, 1, 5), "1E+5": num(0, 1, 5), "1e+5": num(0, 1, 5), "1E-5": num(0, 1, -5), "1e-5": num(0, 1, -5),
		"1.5E3": num(0, 15, 2), "1.5e-3": num(0, 15, -4), "1E05": num(0, 1, 5), "1E005": num(0, 1, 5), "1E-005": num(0, 1, -5), "1E18": num(0, 1, 18), "1E-18": num(0, 1, -18), "0E999": num(0, 0, 0), "0E-999": num(0, 0, 0), "1E000": num(0, 1, 0), "10E17": num(0, 1, 18),
	} {
		reads(t, s, want)
		reads(t, s+"%", want, mark(len(s), "%"))
	}
}

// TestNumEnds asks where a number ends, and what stands behind it.
func TestNumEnds(t *testing.T) {
	refuses(t, "1.", 1, api.ErrSyntax)
	refuses(t, "12.", 2, api.ErrSyntax)
	refuses(t, "1.E5", 1, api.ErrSyntax)
	refuses(t, "1.x", 1, api.ErrSyntax)
	refuses(t, "1..5", 1, api.ErrSyntax)
	refuses(t, "1.5.", 3, api.ErrSyntax)
	refuses(t, "1.5.6", 3, api.ErrSyntax)
	refuses(t, ".", 0, api.ErrSyntax)
	refuses(t, ".5", 0, api.ErrSyntax)
	refuses(t, "+.5", 1, api.ErrSyntax)
	refuses(t, "1E5.5", 3, api.ErrSyntax)
	reads(t, "1E.5", num(0, 1, 0), name(1, "E.5"))
	reads(t, "1e", num(0, 1, 0), name(1, "e"))
	reads(t, "1.5E", num(0, 15, -1), name(3, "E"))
	reads(t, "1E+", num(0, 1, 0), name(1, "E"), mark(2, "+"))
	reads(t, "1e-", num(0, 1, 0), name(1, "e"), mark(2, "-"))
	reads(t, "1E+x", num(0, 1, 0), name(1, "E"), mark(2, "+"), name(3, "x"))
	reads(t, "1E++5", num(0, 1, 0), name(1, "E"), mark(2, "+"), mark(3, "+"), num(4, 5, 0))
	reads(t, "1E+-5", num(0, 1, 0), name(1, "E"), mark(2, "+"), mark(3, "-"), num(4, 5, 0))
	refuses(t, "1EE5", 1, api.ErrRef)
	reads(t, "1Ee5", num(0, 1, 0), name(1, "Ee5"))
	reads(t, "1E5E5", num(0, 1, 5), ref(3, "", 5, 5, ""))
	reads(t, "1E5e5", num(0, 1, 5), name(3, "e5"))
	reads(t, "1E5+1", num(0, 1, 5), mark(3, "+"), num(4, 1, 0))
	reads(t, "1A1", num(0, 1, 0), ref(1, "", 1, 1, ""))
	reads(t, "1x", num(0, 1, 0), name(1, "x"))
	reads(t, "1_", num(0, 1, 0), name(1, "_"))
	reads(t, "1$A1", num(0, 1, 0), ref(1, "", 1, 1, "c"))
	reads(t, "1S!A1", num(0, 1, 0), ref(1, "S", 1, 1, ""))
	reads(t, "1E!A1", num(0, 1, 0), ref(1, "E", 1, 1, ""))
	reads(t, "-1", mark(0, "-"), num(1, 1, 0))
	reads(t, "+1", mark(0, "+"), num(1, 1, 0))
	reads(t, `1"x"`, num(0, 1, 0), text(1, "x"))
	reads(t, "1(", num(0, 1, 0), mark(1, "("))
	refuses(t, "1!", 1, api.ErrSyntax)
	refuses(t, "1!A1", 1, api.ErrSyntax)
	refuses(t, "1,5.", 3, api.ErrSyntax)
	refuses(t, "\u0661", 0, api.ErrSyntax)
	refuses(t, "1\uff11", 1, api.ErrSyntax)
}

// TestNumThatCantBe asks ErrNum and ErrSyntax of numbers, at the beginning of the whole number.
func TestNumThatCantBe(t *testing.T) {
	for _, s := range []string{
		"9223372036854775808", "18446744073709551616", "1.0000000000000000001", "12345678901234567890.5", "1E400", "1e400", "1E999", "1E-999", "1E-19", "1E-20", "0.0000000000000000001", "9223372036854775807.5",
		"1" + strings.Repeat("0", 100), strings.Repeat("9", 200), strings.Repeat("9", 255), "0." + strings.Repeat("0", 200) + "1", "1.5E-18", "1E+999",
	} {
		refuses(t, s, 0, api.ErrNum)
		refuses(t, " 1 + "+s+" ?", 5, api.ErrNum)
	}
	for _, s := range []string{
		"1E0000", "1E0001", "1e0005", "1E+0005", "1E-0005", "1E1000", "1E9999", "0E0000", "1.5E0001", "1E00000000000", "1E" + strings.Repeat("0", 500), "9223372036854775808E0001",
		strings.Repeat("0", 256), strings.Repeat("9", 256), "1." + strings.Repeat("0", 254), strings.Repeat("1", 512),
	} {
		refuses(t, s, 0, api.ErrSyntax)
		refuses(t, "  "+s[:min(len(s), 510)], 2, api.ErrSyntax)
	}
	reads(t, strings.Repeat("0", 255), num(0, 0, 0))
	reads(t, "1."+strings.Repeat("0", 253), num(0, 1, 0))
}

func TestText(t *testing.T) {
	for s, want := range map[string]string{
		`""`: "", `"a"`: "a", `"a b"`: "a b", `" "`: " ", `""""`: `"`, `""""""`: `""`, `"""a"`: `"a`, `"a"""`: `a"`, `"a""b"`: `a"b`, `"a""""b"`: `a""b`, `"""a""b"""`: `"a"b"`,
		`"A1"`: "A1", `"1"`: "1", `"TRUE"`: "TRUE", `"#REF!"`: "#REF!", `"=1+2"`: "=1+2", `"'"`: "'", `"''"`: "''", `"'a b'!A1"`: "'a b'!A1", `"?!.;"`: "?!.;",
		"\"\t\n\r\"": "\t\n\r", "\"\u00f1\u4f60\U0001f600\"": "\u00f1\u4f60\U0001f600", "\"\ufffd\"": "\ufffd", "\"\x7f\u0080\"": "\x7f\u0080",
	} {
		reads(t, s, text(0, want))
		reads(t, " "+s+"&"+s, text(1, want), mark(1+len(s), "&"), text(2+len(s), want))
	}
	reads(t, `"a" ""`, text(0, "a"), text(4, ""))
	reads(t, `"a"b`, text(0, "a"), name(3, "b"))
	reads(t, `"a"" & "b""`, text(0, `a" & `), name(8, "b"), text(9, ""))
	reads(t, `"a"1`, text(0, "a"), num(3, 1, 0))
	reads(t, `"a"'b c'!A1`, text(0, "a"), ref(3, "b c", 1, 1, ""))
}

func TestTextNotEnded(t *testing.T) {
	for _, s := range []string{`"`, `"a`, `"""`, `"a""`, `"a""b`, `""""" `, `"""""`, `"'`, "\"\xff", "\"\x00", `"` + strings.Repeat("a", 511), strings.Repeat(`"`, 511)} {
		refuses(t, s, 0, api.ErrSyntax)
	}
	refuses(t, `1+"a`, 2, api.ErrSyntax)
	refuses(t, `"a" "`, 4, api.ErrSyntax)
	refuses(t, `"a"&"b""`, 4, api.ErrSyntax)
	refuses(t, `?"a`, 0, api.ErrSyntax)
}

func TestTextOfMost(t *testing.T) {
	for _, c := range []string{"a", `"`, " ", "'"} {
		most := strings.Repeat(c, api.MaxText)
		reads(t, lex.Quote(most), text(0, most))
		if c != `"` {
			refuses(t, lex.Quote(most+c), 0, api.ErrBig)
			refuses(t, "  "+lex.Quote(most+c), 2, api.ErrBig)
			refuses(t, "1+"+lex.Quote(most+c), 2, api.ErrBig)
		}
	}
	half := strings.Repeat(`"`, 100)
	reads(t, lex.Quote(half+strings.Repeat("a", 155)), text(0, half+strings.Repeat("a", 155)))
	refuses(t, lex.Quote(half+strings.Repeat("a", 156)), 0, api.ErrBig)
	wide := strings.Repeat("\u00f1", 127)
	reads(t, lex.Quote(wide+"a"), text(0, wide+"a"))
	refuses(t, lex.Quote(wide+"\u00f1"), 0, api.ErrBig)
	refuses(t, lex.Quote(strings.Repeat("a", 510)), 0, api.ErrBig)
	refuses(t, lex.Quote(strings.Repeat("\xff", 256)), 0, api.ErrBig)
	refuses(t, lex.Quote(strings.Repeat("\xff", 255)), 0, api.ErrText)
	refuses(t, `"`+strings.Repeat("a", 300), 0, api.ErrSyntax)
}

func TestTextThatMayNotBe(t *testing.T) {
	for _, s := range []string{
		"\x00", "\x01", "\x08", "\x0b", "\x0c", "\x0e", "\x1f", "a\x00b", "\x80", "\xbf", "\xc0\x80", "\xc3", "\xc3a", "\xe4\xbd", "\xed\xa0\x80", "\xed\xbf\xbf", "\xf4\x90\x80\x80", "\xf8", "\xff", "a\xff", "\xffa", "\ufffe", "\uffff", `"` + "\x00", "\xc3\"",
	} {
		refuses(t, lex.Quote(s), 0, api.ErrText)
		refuses(t, "A1&"+lex.Quote(s)+"&?", 3, api.ErrText)
		refuses(t, `"`+strings.ReplaceAll(s, `"`, `""`), 0, api.ErrSyntax)
	}
}

func TestBad(t *testing.T) {
	reads(t, "#REF!", bad(0))
	reads(t, " #REF! ", bad(1))
	reads(t, "#REF!#REF!", bad(0), bad(5))
	reads(t, "#REF!A1", bad(0), ref(5, "", 1, 1, ""))
	reads(t, "A#REF!", name(0, "A"), bad(1))
	reads(t, "1#REF!(", num(0, 1, 0), bad(1), mark(6, "("))
	reads(t, "SUM(#REF!:A1)", name(0, "SUM"), mark(3, "("), bad(4), mark(9, ":"), ref(10, "", 1, 1, ""), mark(12, ")"))
	for _, s := range []string{"#", "#R", "#RE", "#REF", "#REF ", "#REF?", "#ref!", "#Ref!", "# REF!", "##REF!", "#N/A", "#DIV/0!", "#VALUE!", "#NAME?", "#NUM!", "#CYCLE!", "#1"} {
		refuses(t, s, 0, api.ErrSyntax)
		refuses(t, "A1+"+s, 3, api.ErrSyntax)
	}
	refuses(t, "#REF!!", 5, api.ErrSyntax)
	refuses(t, "S!#REF!", 0, api.ErrSyntax)
}

func TestMark(t *testing.T) {
	for _, s := range allMarks() {
		reads(t, s, mark(0, s))
		reads(t, "1"+s+"2", num(0, 1, 0), mark(1, s), num(1+len(s), 2, 0))
		reads(t, " "+s+" "+s, mark(1, s), mark(2+len(s), s))
	}
	for s, want := range map[string][]string{
		"<>": {"<>"}, "<=": {"<="}, ">=": {">="}, "=<": {"=", "<"}, "=>": {"=", ">"}, "><": {">", "<"}, "==": {"=", "="}, "<<": {"<", "<"}, ">>": {">", ">"},
		"<>=": {"<>", "="}, "<=>": {"<=", ">"}, ">=<": {">=", "<"}, "<<>": {"<", "<>"}, "<<=": {"<", "<="}, ">>=": {">", ">="}, "=<>": {"=", "<>"}, "><>": {">", "<>"}, "<>>=": {"<>", ">="}, "<=<=": {"<=", "<="}, "<>=<": {"<>", "=", "<"}, ">==": {">=", "="}, "=>=": {"=", ">="},
		"-(": {"-", "("}, "%%": {"%", "%"}, "--": {"-", "-"}, "^-": {"^", "-"}, "&&": {"&", "&"}, "::": {":", ":"}, "()": {"(", ")"}, ",,": {",", ","}, "**": {"*", "*"}, "//": {"/", "/"},
	} {
		var l tokens
		at := 0
		for _, m := range want {
			l = append(l, mark(at, m))
			at += len(m)
		}
		reads(t, s, l...)
	}
	for _, s := range texts(4, "<", ">", "=", " ", "+") {
		likeModel(t, s)
	}
}

// TestEachByte asks what begins with each byte, alone and behind others.
func TestEachByte(t *testing.T) {
	for b := range 256 {
		c := string([]byte{byte(b)})
		var want tokens
		switch {
		case b >= '0' && b <= '9':
			want = tokens{num(0, int64(b-'0'), 0)}
		case b >= 'A' && b <= 'Z' || b >= 'a' && b <= 'z' || b == '_':
			want = tokens{name(0, c)}
		case strings.Contains("<>=+-*/^&%(),:", c):
			want = tokens{mark(0, c)}
		}
		if want != nil || b == ' ' {
			reads(t, c, want...)
		} else {
			refuses(t, c, 0, api.ErrSyntax)
			refuses(t, "1 "+c+" 2", 2, api.ErrSyntax)
		}
		for _, s := range []string{"A1" + c, c + "A1", "A1" + c + "B2", "S!A1" + c, "S!" + c + "A1", "'a" + c + "b'!A1", `"a` + c + `b"`, "1" + c, "1" + c + "5", "1.5" + c, "1E" + c, "1E" + c + "5", "x" + c, "x" + c + "(1)", "LOG10" + c, "#REF!" + c, "#REF" + c, "<" + c, ">" + c, "=" + c, c + c, "$" + c, "'" + c, `"` + c, "'a b'" + c + "A1", "'a b'!A1" + c} {
			likeModel(t, s)
		}
	}
}

// TestFirstWrong asks that the first of several errors is told, and at its own place.
func TestFirstWrong(t *testing.T) {
	faults := []struct {
		s string
		e api.Errno
	}{
		{"?", api.ErrSyntax}, {"1E999", api.ErrNum}, {"1E0001", api.ErrSyntax}, {"\"\xff\"", api.ErrText}, {`"` + strings.Repeat("a", 256) + `"`, api.ErrBig}, {"ZZ1", api.ErrRef}, {"S!ZZ1", api.ErrRef}, {"S!x", api.ErrSyntax}, {"'a b'!A513", api.ErrRef}, {"$x", api.ErrSyntax}, {".5", api.ErrSyntax}, {"\u00f1", api.ErrSyntax}, {"#REF", api.ErrSyntax},
	}
	for _, a := range faults {
		for _, b := range faults {
			if len(a.s)+len(b.s) > 500 {
				continue
			}
			refuses(t, a.s+" "+b.s, 0, a.e)
			refuses(t, " x+"+a.s+" + "+b.s, 3, a.e)
			refuses(t, `"x" A1 `+a.s+" "+b.s+" \"", 7, a.e)
		}
	}
}

func TestLexByModel(t *testing.T) {
	for _, s := range texts(4, "A", "1", "$", "!", "'", `"`, "(", ".", "E", " ", "_", "a", "+", "-", "0", "#REF!", "<", "\xff") {
		likeModel(t, s)
	}
	for _, s := range texts(7, "'", "a", " ", "!A1") {
		likeModel(t, "'"+s)
	}
	for _, s := range texts(6, "A", "$", "1", "!", "(", ".") {
		likeModel(t, s)
	}
	for _, s := range texts(6, "1", "E", "e", ".", "+", "0") {
		likeModel(t, s)
	}
	for _, s := range texts(8, `"`, "a", " ") {
		likeModel(t, s)
	}
	r := rand.New(rand.NewSource(1101))
	right := 0
	for range 200000 {
		if likeModel(t, faulty(r, anyText(r))) {
			right++
		}
	}
	if right < 10000 {
		t.Errorf("only %d of the texts are right", right)
	}
}

// TestOfAnyBytes asks that every call ends, whatever it is given.
func TestOfAnyBytes(t *testing.T) {
	r := rand.New(rand.NewSource(1102))
	for range 20000 {
		b := make([]byte, r.Intn(520))
		r.Read(b)
		likeModel(t, string(b))
	}
}

// TestNewMemory asks that what is answered is nobody else's.
func TestNewMemory(t *testing.T) {
	const s = "1+x&\"y\""
	first, _, _ := lex.Lex(s)
	first = append(first[:0], make(tokens, cap(first))...)
	second, at, e := lex.Lex(s)
	if want := (tokens{num(0, 1, 0), mark(1, "+"), name(2, "x"), mark(3, "&"), text(4, "y")}); !slices.Equal(second, want) || at != 0 || e != api.OK {
		t.Errorf("%+v", second)
	}
	for _, one := range first {
		is(t, one, lex.Token{}, "a token that was written over")
	}
}

// P1102

func TestWord(t *testing.T) {
	for _, s := range []string{
		"x", "tax", "SUM", "_", "__", "_1", "a.b", "a.", "_.", "x1", "a1", "zz1", "bl512", "Aa1", "true", "false", "True", "TRUE_", "TRUEx", "TRUE.", "FALSE_", "FALSEx", "E", "e", "E5x", "R1C1", "A", "BL", "ABCD1", "A0", "A01", "A12345678", "A1.5", "A1.", "A1_", "A1A1", "LOG10.", strings.Repeat("a", 512),
	} {
		is(t, lex.Word(s), true, "Word", s)
	}
	for _, s := range []string{
		"", " ", "TRUE", "FALSE", "A1", "BL512", "$A1", "A$1", "$A$1", "ZZ1", "A513", "LOG10", "ABC123", "S!A1", "'a b'!A1", "'x'", "x!",
		" x", "x ", " x ", "a b", "x y", "\tx", "x\n", " TRUE", "TRUE ", "A1 ", "x(", "x()", "(x)", "LOG10(", "A1(",
		"$", "$x", "x$", "a$b", "$_", "1", "1x", "0", "1.5", ".", ".x", "-x", "x-", "x+y", "x,y", "x:y", "x=y", "x%", "<", "(", "#REF!", "#", "x#REF!", `"x"`, `"`, `x"`, "'", "x'", "x?", "?", "x!A1", "x\x00", "\x00", "x\xff", "\xff", "\u00f1", "x\u00f1", "\uff21", strings.Repeat("a", 513), strings.Repeat("a", 1<<20), strings.Repeat(" ", 512),
	} {
		is(t, lex.Word(s), false, "Word", s)
	}
}

func TestQuote(t *testing.T) {
	for s, want := range map[string]string{
		"": `""`, "a": `"a"`, "a b": `"a b"`, `"`: `""""`, `""`: `""""""`, `a"b`: `"a""b"`, `"a"`: `"""a"""`, "'": `"'"`, "a''b": `"a''b"`, "\xff": "\"\xff\"", "\x00\"": "\"\x00\"\"\"", "\u00f1": "\"\u00f1\"", "\\": `"\"`, "\n": "\"\n\"", "A1": `"A1"`,
	} {
		is(t, lex.Quote(s), want, "Quote", s)
	}
	is(t, lex.Quote(strings.Repeat(`"`, 1000)), strings.Repeat(`"`, 2002), "Quote of many")
	is(t, lex.Quote(strings.Repeat("a", 1000)), `"`+strings.Repeat("a", 1000)+`"`, "Quote of many")
	for b := range 256 {
		c := string([]byte{byte(b)})
		want := `"a` + c + `b"`
		if c == `"` {
			want = `"a""b"`
		}
		is(t, lex.Quote("a"+c+"b"), want, "Quote", b)
	}
}

// P1103

func TestQuoteIsText(t *testing.T) {
	r := rand.New(rand.NewSource(1103))
	for range 20000 {
		s := anyAllowed(r, r.Intn(80))
		if len(s) <= api.MaxText {
			reads(t, lex.Quote(s), text(0, s))
			is(t, lex.Word(lex.Quote(s)), false, "Word of Quote", s)
		}
	}
	for _, s := range texts(6, `"`, "a", " ", "'") {
		reads(t, lex.Quote(s), text(0, s))
	}
}

func TestWordIsName(t *testing.T) {
	words := 0
	for _, s := range texts(5, "A", "a", "1", "0", "_", ".", "$", " ") {
		l, _, e := lex.Lex(s)
		single := e == api.OK && len(l) == 1 && l[0] == name(0, s)
		is(t, lex.Word(s), single, "Word", s)
		if single {
			words++
		}
	}
	if words < 1000 {
		t.Errorf("only %d words", words)
	}
}

// size is how many bytes a token of s takes, as it is written.
func size(s string, one lex.Token) int {
	switch one.Kind {
	case lex.Num:
		return len(numForm.FindString(s[one.At:]))
	case lex.Text:
		return len(lex.Quote(one.S))
	case lex.Ref:
		return len(cells.Print(one.R))
	case lex.Bad:
		return len("#REF!")
	}
	return len(one.S)
}

// TestCovers asks that blanks alone stand ahead of tokens, between them and behind, and that each token stands where it says.
func TestCovers(t *testing.T) {
	r := rand.New(rand.NewSource(1104))
	read := 0
	for range 100000 {
		s := anyText(r)
		l, _, e := lex.Lex(s)
		if e != api.OK {
			continue
		}
		read++
		end := 0
		for _, one := range append(l, lex.Token{At: len(s)}) {
			if end > one.At || strings.Trim(s[end:one.At], " ") != "" {
				t.Fatalf("Lex %q: between %d and %d: %+v", s, end, one.At, l)
			}
			end = one.At
			if one.Kind != 0 {
				end += size(s, one)
			}
		}
	}
	if read < 5000 {
		t.Errorf("only %d could be read", read)
	}
}

// TestWritten asks that tokens which are written with blanks between are read as they were.
func TestWritten(t *testing.T) {
	r := rand.New(rand.NewSource(1105))
	for range 50000 {
		var want tokens
		s := strings.Repeat(" ", r.Intn(3))
		for range r.Intn(12) {
			one, written := anyWritten(r)
			one.At = len(s)
			want = append(want, one)
			s += written + strings.Repeat(" ", 1+r.Intn(3))
		}
		if len(s) <= api.MaxFormula {
			reads(t, s, want...)
		}
	}
}
