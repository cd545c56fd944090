package expr_test

import (
	"math/rand"
	"strings"
	"testing"

	"quire/api"
	"quire/expr"
)

// P1201

func TestParse(t *testing.T) {
	one, two, three := num(1, 0), num(2, 0), num(3, 0)
	a, b, c := name("a"), name("b"), name("c")
	reads(t, "1+2*3^2%", bin(one, "+", bin(two, "*", bin(three, "^", pct(two)))))
	reads(t, " 1 + 2 * 3 ^ 2 % ", bin(one, "+", bin(two, "*", bin(three, "^", pct(two)))))
	reads(t, "-2^2", bin(neg(two), "^", two))
	reads(t, "-(2^2)", neg(bin(two, "^", two)))
	reads(t, "(1+2)*3", bin(bin(one, "+", two), "*", three))
	reads(t, "SUM(A1:B2,x)", call("SUM", area("A1:B2"), name("x")))
	reads(t, "a=b=c", bin(bin(a, "=", b), "=", c))
	reads(t, `IF(S!$A$1>=10,"big "&"""",'a b'!A1:$B2)`, call("IF", bin(ref("S!$A$1"), ">=", num(1, 1)), bin(text("big "), "&", text(`"`)), area("'a b'!A1:$B2")))
}

func TestAtoms(t *testing.T) {
	for s, want := range map[string]api.Expr{
		"0": num(0, 0), "1.5": num(15, -1), "1E18": num(1, 18), "9223372036854775807": num(9223372036854775807, 0), "007": num(7, 0), "0E999": num(0, 0),
		`""`: text(""), `"a""b"`: text(`a"b`), `"TRUE"`: text("TRUE"), `"("`: text("("), `")"`: text(")"), `"-"`: text("-"), `"+"`: text("+"), `"%"`: text("%"), `"1"`: text("1"), `"A1"`: text("A1"), `","`: text(","), `":"`: text(":"),
		"TRUE": truth(true), "FALSE": truth(false), "true": name("true"), "False": name("False"), "TRUE.": name("TRUE."),
		"A1": ref("A1"), "$A$1": ref("$A$1"), "BL512": ref("BL512"), "S!A1": ref("S!A1"), "'it''s'!A$1": ref("'it''s'!A$1"), "TRUE!A1": ref("TRUE!A1"),
		"A1:B2": area("A1:B2"), "B2:A1": area("B2:A1"), "A1:A1": area("A1:A1"), "$A1:B$2": area("$A1:B$2"), "S!A1:B2": area("S!A1:B2"), "'a b'!$A$1:$B$2": area("'a b'!$A$1:$B$2"),
		"#REF!": bad(), "x": name("x"), "tax": name("tax"), "_": name("_"), "a.b": name("a.b"), "SUM": name("SUM"), "E": name("E"), "A0": name("A0"), "a1": name("a1"),
	} {
		reads(t, s, want)
		for _, around := range []string{" # ", "(#)", "((#))", " ( # ) "} {
			reads(t, strings.Replace(around, "#", s, 1), want)
		}
		reads(t, "-"+s, neg(want))
		reads(t, s+"%", pct(want))
		reads(t, "F("+s+")", call("F", want))
		reads(t, s+"+"+s, bin(want, "+", want))
	}
	reads(t, "A1 : B2", area("A1:B2"))
	reads(t, " S!A1  :B2 ", area("S!A1:B2"))
}

func TestRangeHasOneSheet(t *testing.T) {
	x, _, e := expr.Parse("'a b'!A1:B2")
	is(t, e, api.OK, "Parse")
	is(t, x.Ref, api.Ref{Sheet: "a b", Col: 1, Row: 1}, "Ref")
	is(t, x.To, api.Ref{Sheet: "a b", Col: 2, Row: 2}, "To")
}

func TestOperators(t *testing.T) {
	a, b := name("a"), name("b")
	for i, s := range signs() {
		want := api.Expr{Kind: api.XBin, Op: i + 1, Kids: []api.Expr{a, b}}
		for _, all := range []string{"a" + s + "b", " a " + s + " b ", "(a)" + s + "(b)", "(a" + s + "b)", "((a" + s + "b))"} {
			reads(t, all, want)
		}
		reads(t, "a"+s+"-b", bin(a, s, neg(b)))
		reads(t, "-a"+s+"b", bin(neg(a), s, b))
		reads(t, "--a"+s+"--b", bin(neg(neg(a)), s, neg(neg(b))))
		reads(t, "a%"+s+"b%", bin(pct(a), s, pct(b)))
		reads(t, "-a%"+s+"-b%%", bin(neg(pct(a)), s, neg(pct(pct(b)))))
		reads(t, "-(a"+s+"b)", neg(bin(a, s, b)))
		reads(t, "(a"+s+"b)%", pct(bin(a, s, b)))
		reads(t, "A1"+s+"B2:C3", bin(ref("A1"), s, area("B2:C3")))
		reads(t, `"`+s+`"`+s+`"`+s+`"`, bin(text(s), s, text(s)))
		if s != "-" {
			refuses(t, s, 0, api.ErrSyntax)
			refuses(t, s+"a", 0, api.ErrSyntax)
			refuses(t, "a+"+s+"a", 2, api.ErrSyntax)
			refuses(t, "a - "+s+"a", 4, api.ErrSyntax)
		}
		refuses(t, "a"+s, 1+len(s), api.ErrSyntax)
		refuses(t, "a"+s+"  ", 3+len(s), api.ErrSyntax)
		refuses(t, "a"+s+"%", 1+len(s), api.ErrSyntax)
		refuses(t, "(a"+s+")", 2+len(s), api.ErrSyntax)
		refuses(t, "F(a"+s+",1)", 3+len(s), api.ErrSyntax)
	}
	refuses(t, "-", 1, api.ErrSyntax)
}

// TestPairsOfOperators asks of each two operators which one binds closer, and of parentheses that they turn it.
func TestPairsOfOperators(t *testing.T) {
	a, b, c := name("a"), name("b"), name("c")
	for i, first := range levels() {
		for j, second := range levels() {
			for _, p := range first {
				for _, q := range second {
					left, right := bin(bin(a, p, b), q, c), bin(a, p, bin(b, q, c))
					if j > i {
						reads(t, "a"+p+"b"+q+"c", right)
					} else {
						reads(t, "a"+p+"b"+q+"c", left)
					}
					reads(t, "(a"+p+"b)"+q+"c", left)
					reads(t, "a"+p+"(b"+q+"c)", right)
				}
			}
		}
	}
}

func TestFromTheLeft(t *testing.T) {
	for _, level := range levels() {
		for _, p := range level {
			for _, q := range level {
				for _, s := range level {
					a, b, c, d := name("a"), num(1, 0), ref("A1"), name("d")
					reads(t, "a"+p+"1"+q+"A1"+s+"d", bin(bin(bin(a, p, b), q, c), s, d))
				}
			}
		}
	}
}

func TestAheadAndBehind(t *testing.T) {
	one, two := num(1, 0), num(2, 0)
	for n := range 32 {
		reads(t, strings.Repeat("-", n)+"1", times(n, neg, one))
		reads(t, "1"+strings.Repeat("%", n), times(n, pct, one))
		reads(t, strings.Repeat("- ", n)+"1", times(n, neg, one))
		reads(t, strings.Repeat("-", n/2)+"1"+strings.Repeat(" %", n/2), times(n/2, neg, times(n/2, pct, one)))
	}
	reads(t, "-1%", neg(pct(one)))
	reads(t, "(-1)%", pct(neg(one)))
	reads(t, "2--1", bin(two, "-", neg(one)))
	reads(t, "2---1", bin(two, "-", neg(neg(one))))
	reads(t, "2^-1", bin(two, "^", neg(one)))
	reads(t, "2^--1^2", bin(bin(two, "^", neg(neg(one))), "^", two))
	reads(t, "-A1:B2%", neg(pct(area("A1:B2"))))
	reads(t, "2*-1", bin(two, "*", neg(one)))
	reads(t, "2%-1", bin(pct(two), "-", one))
	refuses(t, "+1", 0, api.ErrSyntax)
	refuses(t, "-+1", 1, api.ErrSyntax)
	refuses(t, "%", 0, api.ErrSyntax)
	refuses(t, "%1", 0, api.ErrSyntax)
	refuses(t, "-%1", 1, api.ErrSyntax)
	refuses(t, "1%1", 2, api.ErrSyntax)
	refuses(t, "-", 1, api.ErrSyntax)
	refuses(t, "--  ", 4, api.ErrSyntax)
	refuses(t, "1-", 2, api.ErrSyntax)
}

func TestCalls(t *testing.T) {
	one := num(1, 0)
	reads(t, "PI()", call("PI"))
	reads(t, "PI ( )", call("PI"))
	reads(t, "F(1)", call("F", one))
	reads(t, "F  (1)", call("F", one))
	reads(t, "F( 1 , 1 )", call("F", one, one))
	reads(t, "F((1))", call("F", one))
	reads(t, "F((1),(1))", call("F", one, one))
	reads(t, "F(G(),H(1,K()))", call("F", call("G"), call("H", one, call("K"))))
	reads(t, "F(1+2,-x%)", call("F", bin(one, "+", num(2, 0)), neg(pct(name("x")))))
	reads(t, "F()%", pct(call("F")))
	reads(t, "-F()^G()", bin(neg(call("F")), "^", call("G")))
	reads(t, "LOG10(1)", call("LOG10", one))
	reads(t, "A1(1)", call("A1", one))
	reads(t, "ZZ999()", call("ZZ999"))
	reads(t, "A.B2()", call("A.B2"))
	reads(t, "E.5(1)", call("E.5", one))
	reads(t, "TRUE()", call("TRUE"))
	reads(t, "FALSE (1)", call("FALSE", one))
	reads(t, "F(TRUE)", call("F", truth(true)))
	reads(t, "F(F)", call("F", name("F")))
	reads(t, strings.Repeat("A", 20)+"(1)", call(strings.Repeat("A", 20), one))
	for s, place := range map[string]int{
		"F(": 2, "F( ": 3, "F(1": 3, "F(1 ": 4, "F(1,": 4, "F(,)": 2, "F(,1)": 2, "F(1,)": 4, "F(1,,1)": 4, "F(1 1)": 4, "F(1)1": 4, "F()()": 3, "F(1)(1)": 4, "F(1)G": 4, "F)": 1, "F,": 1, "F()F": 3, "F(1:2)": 3, "(F(1)": 5, "F(1))": 4, "F((1)": 5, "F((1,1))": 4, "F(%)": 2, "F G()": 2, "F 1": 2, "1,1": 1, "(1,1)": 2, "1(1)": 1, "A1 (1)": 3, "\"F\"(1)": 3, "S!A1(1)": 4, "#REF!(1)": 5, "()": 1, "( )": 2,
	} {
		refuses(t, s, place, api.ErrSyntax)
	}
}

// TestNoCallsName asks that a Name ahead of `(` is told, and not what stands behind it.
func TestNoCallsName(t *testing.T) {
	for _, s := range []string{"x", "sum", "Sum", "SUm", "_", "_A", "A_", "A_B", "a1", "A.b", "true", "e5", strings.Repeat("A", 21)} {
		for _, all := range []string{s + "(1)", s + " (1)", s + "(", s + "()", s + " ( ", s + "(1", s + "(((", s + "()("} {
			refuses(t, all, 0, api.ErrSyntax)
			refuses(t, "1+"+all, 2, api.ErrSyntax)
			refuses(t, "F(1, "+all, 5, api.ErrSyntax)
		}
		refuses(t, "1 "+s+"(1)", 2, api.ErrSyntax)
		refuses(t, "1)"+s+"(1)", 1, api.ErrSyntax)
	}
	refuses(t, "ABC123 (1)", 0, api.ErrRef)
	refuses(t, "LOG10 (1)", 0, api.ErrRef)
	refuses(t, "A1 (1)", 3, api.ErrSyntax)
}

func TestRangesThatAreNone(t *testing.T) {
	for s, place := range map[string]int{
		"A1:S!B2": 3, "S!A1:S!B2": 5, "A1:'a b'!B2": 3, "SUM(A1:S!B2)": 7, "A1 : S!B2": 5, "A1:x": 3, "A1:1": 3, "A1:\"B2\"": 3, "A1:#REF!": 3, "A1:(B2)": 3, "A1:-B2": 3, "A1:TRUE": 3, "A1::B2": 3, "A1:F()": 3, "A1:B2()": 3, "A1:%": 3, "A1:)": 3, "A1:,": 3,
		"A1:": 3, "A1: ": 4, "(A1:": 4, "F(A1:": 5, "A1:B2:C3": 5, "A1:B2:": 5, ":": 0, ":A1": 0, "1:2": 1, "1:A1": 1, "x:A1": 1, "TRUE:A1": 4, "\"A1\":B2": 4, "#REF!:A1": 5, "(A1):B2": 4, "F():A1": 3, "A1%:B2": 3, "-:A1": 1, "F(:A1)": 2, "A1+:B2": 3, "A1:B2 C3": 6, "A1 B2": 3, "A1B2:C3": 4,
	} {
		refuses(t, s, place, api.ErrSyntax)
	}
}

func TestEndsTooEarly(t *testing.T) {
	for _, s := range []string{"", " ", "     ", "(", "((", "1+", "1 + ", "-", "(1", "(1+2", "((1)", "1*(2", "F(", "F(1,", "F(1", "A1:", "a=", "a&", "-(", "1^", "1>=", "(-", "F(G(", "F((1)", "F(1,2", strings.Repeat(" ", 512), strings.Repeat("(", 512), strings.Repeat("-", 512), "1" + strings.Repeat(" ", 510) + "+"} {
		refuses(t, s, len(s), api.ErrSyntax)
		if len(s) < 500 {
			refuses(t, s+"   ", len(s)+3, api.ErrSyntax)
		}
	}
}

func TestTokenTooMany(t *testing.T) {
	for s, place := range map[string]int{
		"1 2": 2, "1 x": 2, "x 1": 2, "x y": 2, "1x": 1, "1 \"a\"": 2, "\"a\" \"b\"": 4, "A1 B1": 3, "#REF! #REF!": 6, "1)": 1, ")": 0, "1 )": 2, "(1))": 3, ",": 0, "1,": 1, "1(": 1, "(1)(2)": 3, "(1)2": 3, "TRUE FALSE": 5, "TRUE 1": 5, "x TRUE": 2, "1 (2)": 2, "(1 2)": 3, "1+2 3": 4, "1+2 3 4 5": 4, "1) 2)": 1, "*": 0, "1 * * 2": 4, "a = = b": 4, "a < > b": 4, "1E": 1, "=1": 0, "== 1": 0, "1==1": 2, "a=<b": 2,
	} {
		refuses(t, s, place, api.ErrSyntax)
	}
}

// TestLexFirst asks that what Lex refuses is told as Lex does, ahead of all that is wrong besides.
func TestLexFirst(t *testing.T) {
	for s, want := range map[string]struct {
		at int
		e  api.Errno
	}{
		"?": {0, api.ErrSyntax}, "1 2 ?": {4, api.ErrSyntax}, ") 1E999": {2, api.ErrNum}, "* ZZ1": {2, api.ErrRef}, "* A513:": {2, api.ErrRef}, "x(1) \"\xff\"": {5, api.ErrText}, "+ \"\x01\"": {2, api.ErrText}, "(( \"a": {3, api.ErrSyntax}, "1 S!": {2, api.ErrSyntax}, "A1:LOG10": {3, api.ErrRef}, "1.": {1, api.ErrSyntax}, "1E0001": {0, api.ErrSyntax},
		"1 2 " + `"` + strings.Repeat("a", 256) + `"`:                          {4, api.ErrBig},
		strings.Repeat("-", 40) + "1 ?":                                        {42, api.ErrSyntax},
		"F(" + strings.Repeat("1,", 40) + "1) 9223372036854775808":             {85, api.ErrNum},
		strings.Repeat("1", 513):                                               {0, api.ErrBig},
		strings.Repeat(" ", 513):                                               {0, api.ErrBig},
		strings.Repeat(")", 513):                                               {0, api.ErrBig},
		strings.Repeat("-", 512) + "1":                                         {0, api.ErrBig},
		strings.Repeat("(", 256) + "1" + strings.Repeat(")", 256):              {0, api.ErrBig},
		"1" + strings.Repeat(" ", 510) + "?":                                   {511, api.ErrSyntax},
		"1" + strings.Repeat("+1", 100) + "+" + strings.Repeat("9", 200) + ")": {202, api.ErrNum},
	} {
		refuses(t, s, want.at, want.e)
	}
}

// chain is n operands with an operator between: the first of them stands n deep.
func chain(n int, sign string) string { return "1" + strings.Repeat(sign+"1", n-1) }

func TestDeepest(t *testing.T) {
	one := num(1, 0)
	plus := func(x api.Expr) api.Expr { return bin(x, "+", one) }
	within := func(x api.Expr) api.Expr { return call("F", x) }
	for s, want := range map[string]api.Expr{
		strings.Repeat("-", 31) + "1":                                        times(31, neg, one),
		"1" + strings.Repeat("%", 31):                                        times(31, pct, one),
		chain(32, "+"):                                                       times(31, plus, one),
		strings.Repeat("F(", 31) + "1" + strings.Repeat(")", 31):             times(31, within, one),
		strings.Repeat("F(", 31) + "G()" + strings.Repeat(")", 31):           times(31, within, call("G")),
		strings.Repeat("-", 15) + "1" + strings.Repeat("%", 16):              times(15, neg, times(16, pct, one)),
		strings.Repeat("-(", 31) + "((1))" + strings.Repeat(")", 31):         times(31, neg, one),
		strings.Repeat("(", 100) + chain(32, "+") + strings.Repeat(")", 100): times(31, plus, one),
	} {
		reads(t, s, want)
		refuses(t, "-("+s+")", 0, api.ErrDeep)
		refuses(t, "("+s+")%", 0, api.ErrDeep)
		refuses(t, "F(1,"+s+")", 0, api.ErrDeep)
		refuses(t, "1+("+s+")", 0, api.ErrDeep)
		refuses(t, "("+s+")+1", 0, api.ErrDeep)
		refuses(t, "-("+s+") 1", len(s)+4, api.ErrSyntax)
		refuses(t, "-("+s, len(s)+2, api.ErrSyntax)
	}
	for _, sign := range signs() {
		is(t, likeModel(t, chain(32, sign)), true, "Parse", sign)
		refuses(t, chain(33, sign), 0, api.ErrDeep)
		refuses(t, chain(33, sign)+")", len(chain(33, sign)), api.ErrSyntax)
	}
	refuses(t, strings.Repeat("-", 511)+"1", 0, api.ErrDeep)
	refuses(t, "1"+strings.Repeat("%", 511), 0, api.ErrDeep)
	refuses(t, "1"+strings.Repeat("+1", 255), 0, api.ErrDeep)
	refuses(t, "1"+strings.Repeat("+1", 255)+"+", 512, api.ErrSyntax)
	refuses(t, strings.Repeat("-", 510)+"1)", 511, api.ErrSyntax)
}

// ones is a call of n arguments.
func ones(n int) string { return "F(" + strings.TrimSuffix(strings.Repeat("1,", n), ",") + ")" }

func TestMostArguments(t *testing.T) {
	for n := range 33 {
		x := call("F")
		for range n {
			x.Kids = append(x.Kids, num(1, 0))
		}
		reads(t, ones(n), x)
	}
	for _, n := range []int{33, 34, 64, 100, 199, 200, 250, 254} {
		refuses(t, ones(n), 0, api.ErrBig)
		refuses(t, ones(n)[:len(ones(n))-1], len(ones(n))-1, api.ErrSyntax)
	}
	refuses(t, "1+"+ones(33), 0, api.ErrBig)
	refuses(t, "F("+ones(33)+")", 0, api.ErrBig)
	refuses(t, ones(33)+" 1", len(ones(33))+1, api.ErrSyntax)
}

// many is a formula of n nodes: calls in a call, none of more than 32 arguments.
func many(n int) string {
	var inner []string
	for left := n - 1; left > 0; left -= 32 {
		inner = append(inner, ones(min(left, 32)-1))
	}
	return "F(" + strings.Join(inner, ",") + ")"
}

func TestMostNodes(t *testing.T) {
	for _, n := range []int{1, 2, 3, 10, 31, 32, 33, 34, 35, 64, 65, 66, 150, 199, 200} {
		x, place, e := expr.Parse(many(n))
		if place != 0 || e != api.OK || modelNodes(x) != n || modelArgs(x) > 32 {
			t.Errorf("Parse %q: %d nodes, %d, %d, not %d", many(n), modelNodes(x), place, int(e), n)
		}
		is(t, likeModel(t, many(n)), true, "Parse", n)
	}
	for _, n := range []int{201, 202, 210, 240} {
		refuses(t, many(n), 0, api.ErrBig)
		refuses(t, many(n)+")", len(many(n)), api.ErrSyntax)
		refuses(t, many(n)[:len(many(n))-1], len(many(n))-1, api.ErrSyntax)
	}
	refuses(t, "-"+many(200), 0, api.ErrBig)
	is(t, likeModel(t, "-"+many(199)), true, "Parse of 200")
	refuses(t, many(199)+"+1", 0, api.ErrBig)
	is(t, likeModel(t, many(198)+"+1"), true, "Parse of 200")
}

// TestDeepAheadOfBig asks which error of several is told.
func TestDeepAheadOfBig(t *testing.T) {
	deep := strings.Repeat("-", 32) + "1"
	refuses(t, deep+"+"+ones(33), 0, api.ErrDeep)
	refuses(t, ones(33)+"+"+deep, 0, api.ErrDeep)
	refuses(t, many(190)+"+"+deep, 0, api.ErrDeep)
	refuses(t, "F("+ones(33)+","+deep+")", 0, api.ErrDeep)
	refuses(t, ones(33)+"+"+deep+"+", len(ones(33)+deep)+2, api.ErrSyntax)
	refuses(t, deep+" x(1)", len(deep)+1, api.ErrSyntax)
	refuses(t, deep+"+x(1)", len(deep)+1, api.ErrSyntax)
	refuses(t, ones(33)+"+A1:S!A1", len(ones(33))+4, api.ErrSyntax)
}

// TestParentheses asks that parentheses are no nodes, however many there are.
func TestParentheses(t *testing.T) {
	for n := range 256 {
		open, shut := strings.Repeat("(", n), strings.Repeat(")", n)
		reads(t, open+"1"+shut, num(1, 0))
		refuses(t, open+shut, n, api.ErrSyntax)
		refuses(t, open+"1"+shut+")", 2*n+1, api.ErrSyntax)
		refuses(t, "("+open+"1"+shut, 2*n+2, api.ErrSyntax)
	}
	reads(t, strings.Repeat("(", 127)+"1"+strings.Repeat(")", 127)+"+"+strings.Repeat("(", 127)+"x"+strings.Repeat(")", 127), bin(num(1, 0), "+", name("x")))
	reads(t, strings.Repeat("(", 254)+"PI()"+strings.Repeat(")", 254), call("PI"))
	reads(t, "F("+strings.Repeat("(", 250)+"A1:B2"+strings.Repeat(")", 250)+")", call("F", area("A1:B2")))
	reads(t, strings.Repeat("(", 254)+"-1%"+strings.Repeat(")", 254), neg(pct(num(1, 0))))
	refuses(t, strings.Repeat("(", 512), 512, api.ErrSyntax)
	refuses(t, strings.Repeat("F(", 256), 512, api.ErrSyntax)
	refuses(t, strings.Repeat("-(", 255)+"1", 511, api.ErrSyntax)
	refuses(t, strings.Repeat(")", 512), 0, api.ErrSyntax)
}

func TestParseByModel(t *testing.T) {
	for _, s := range all(5, "1", "-", "^", "%", "(", ")", ",", ":", "A1", "x ", "F(") {
		likeModel(t, s)
	}
	for _, s := range all(4, "1", "-", "+", "*", "=", "<", ">", "&", "%", "(", ")", ",", ":", "A1", "S!B2", "TRUE", "x", "F", "#REF!", `"-"`, " ") {
		likeModel(t, s)
	}
	for _, s := range all(7, "1", "-", "(", ")", "%") {
		likeModel(t, s)
	}
	for _, s := range all(6, "A1", ":", "(", ")", "F", ",") {
		likeModel(t, s)
	}
}

func TestParseAnyText(t *testing.T) {
	r := rand.New(rand.NewSource(1201))
	parts := strings.Fields(`1 0.5 1E3 "x" "(" TRUE FALSE A1 $B$2 S!A1 'a''b'!C3 x tax F SUM LOG10 sum #REF! + - * / ^ & = <> < <= > >= % ( ) , : ( ) , - ? ZZ1`)
	right := 0
	for range 200000 {
		s := ""
		for range 1 + r.Intn(9) {
			s += oneOf(r, parts...) + oneOf(r, "", "", " ", "  ")
		}
		if likeModel(t, s) {
			right++
		}
	}
	if right < 5000 {
		t.Errorf("only %d of the texts are right", right)
	}
	for range 20000 {
		b := make([]byte, r.Intn(520))
		r.Read(b)
		likeModel(t, string(b))
	}
}

// TestParseFaulty asks of right texts with a piece more, less or another one.
func TestParseFaulty(t *testing.T) {
	r := rand.New(rand.NewSource(1202))
	right := 0
	for range 50000 {
		s, e := expr.Print(anyRight(r, 5))
		if e != api.OK {
			continue
		}
		from := r.Intn(len(s) + 1)
		to := min(len(s), from+r.Intn(2))
		s = s[:from] + oneOf(r, "", "(", ")", ",", "-", "%", ":", "+", "=", ">", " ", "1", "x", "A1", "F(", "$", "!", `"`) + s[to:]
		if likeModel(t, s) {
			right++
		}
	}
	if right < 1000 {
		t.Errorf("only %d of the texts are right", right)
	}
}

func TestParseNewMemory(t *testing.T) {
	for _, s := range []string{"F(1,2,3)+G()", "-(1+2)%", "F(G(H(1,x),2),3,4,5)"} {
		first, _, _ := expr.Parse(s)
		kept := copied(first)
		second, _, _ := expr.Parse(s)
		scribble(first)
		becomes(t, second, kept, "Parse", s)
		third, _, _ := expr.Parse(s)
		becomes(t, third, kept, "Parse again", s)
	}
}
