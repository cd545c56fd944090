package expr_test

import (
	"math"
	"math/rand"
	"slices"
	"strings"
	"testing"

	"quire/api"
	"quire/expr"
)

// P1202

// eachKind is a right node of each kind, with the way each is written.
func eachKind() map[string]api.Expr {
	one := num(1, 0)
	return map[string]api.Expr{
		"1": one, `"x"`: text("x"), "TRUE": truth(true), "FALSE": truth(false), "A1": ref("A1"), "S!A1:B2": area("S!A1:B2"), "x": name("x"), "F()": call("F"), "F(1)": call("F", one), "-1": neg(one), "1%": pct(one), "1+1": bin(one, "+", one), "#REF!": bad(),
	}
}

// TestWhatKindsMayNotHave gives each kind all that it must not have, one thing at a time, alone and within others.
func TestWhatKindsMayNotHave(t *testing.T) {
	for s, x := range eachKind() {
		writes(t, x, s)
		for what, change := range map[string]func(x *api.Expr){
			"a kind of value":      func(x *api.Expr) { x.V.Kind = (x.V.Kind + 1) % 5 },
			"an error's kind":      func(x *api.Expr) { x.V.Kind = api.VErr },
			"a kind that is none":  func(x *api.Expr) { x.V.Kind = -1 },
			"a kind that is none ": func(x *api.Expr) { x.V.Kind = 5 },
			"a number":             func(x *api.Expr) { x.V.N.C = 7 },
			"an exponent":          func(x *api.Expr) { x.V.N.E = 3 },
			"a text":               func(x *api.Expr) { x.V.S = "s" },
			"a truth":              func(x *api.Expr) { x.V.B = !x.V.B },
			"an error":             func(x *api.Expr) { x.V.E = api.EDiv },
			"a sheet":              func(x *api.Expr) { x.Ref.Sheet = "T" },
			"a column":             func(x *api.Expr) { x.Ref.Col = 9 },
			"a row":                func(x *api.Expr) { x.Ref.Row = 9 },
			"a fixed column":       func(x *api.Expr) { x.Ref.AbsCol = true },
			"a fixed row":          func(x *api.Expr) { x.Ref.AbsRow = true },
			"another sheet":        func(x *api.Expr) { x.To.Sheet = "S" },
			"another column":       func(x *api.Expr) { x.To.Col = 9 },
			"another row":          func(x *api.Expr) { x.To.Row = 9 },
			"one fixed column":     func(x *api.Expr) { x.To.AbsCol = true },
			"one fixed row":        func(x *api.Expr) { x.To.AbsRow = true },
			"a name":               func(x *api.Expr) { x.Name = "NAME" },
			"an operator":          func(x *api.Expr) { x.Op = api.OMul },
			"a Kid":                func(x *api.Expr) { x.Kids = append(x.Kids[:len(x.Kids):len(x.Kids)], num(2, 0)) },
			"a Kid less":           func(x *api.Expr) { x.Kids = x.Kids[:max(len(x.Kids)-1, 0)] },
			"no Kid":               func(x *api.Expr) { x.Kids = nil },
			"an empty list":        func(x *api.Expr) { x.Kids = make([]api.Expr, 0, 3) },
			"a kind of node":       func(x *api.Expr) { x.Kind++ },
			"no kind of node":      func(x *api.Expr) { x.Kind = 0 },
		} {
			y := copied(x)
			change(&y)
			want := modelRight(y)
			for _, z := range []api.Expr{y, neg(y), call("F", num(1, 0), y), bin(y, "*", num(1, 0)), bin(num(1, 0), "*", pct(y))} {
				if got := expr.Right(z); got != want {
					t.Errorf("Right of %s with %s: %d, not %d: %+v", s, what, int(got), int(want), z)
				}
			}
			if want == api.ErrArg {
				wrong(t, y, api.ErrArg)
			}
		}
	}
}

func TestKindsThatAreNone(t *testing.T) {
	wrong(t, api.Expr{}, api.ErrArg)
	for _, kind := range []int{-1, 0, 12, 13, 100, math.MaxInt, math.MinInt} {
		wrong(t, api.Expr{Kind: kind}, api.ErrArg)
		wrong(t, neg(api.Expr{Kind: kind}), api.ErrArg)
		wrong(t, api.Expr{Kind: kind, Kids: []api.Expr{num(1, 0)}}, api.ErrArg)
		wrong(t, bin(num(1, 0), "+", call("F", api.Expr{Kind: kind})), api.ErrArg)
	}
	for kind := api.XNum; kind <= api.XBin; kind++ {
		if kind != api.XBool { // its V must have a Kind, too
			wrong(t, api.Expr{Kind: kind}, api.ErrArg)
		}
	}
	wrong(t, api.Expr{Kind: api.XBool}, api.ErrArg)
	writes(t, api.Expr{Kind: api.XBad}, "#REF!")
}

func TestRightOperators(t *testing.T) {
	for op := api.OAdd; op <= api.OGe; op++ {
		is(t, expr.Right(api.Expr{Kind: api.XBin, Op: op, Kids: []api.Expr{num(1, 0), num(2, 0)}}), api.OK, "Right", op)
	}
	for _, op := range []int{-1, 0, 13, 14, 1000, math.MaxInt, math.MinInt} {
		wrong(t, api.Expr{Kind: api.XBin, Op: op, Kids: []api.Expr{num(1, 0), num(2, 0)}}, api.ErrArg)
	}
}

func TestRightNumbers(t *testing.T) {
	for s, x := range map[string]api.Expr{
		"0": num(0, 0), "1": num(1, 0), "10": num(1, 1), "1000000000000000000": num(1, 18), "0.000000000000000001": num(1, -18), "9223372036854775807": num(math.MaxInt64, 0), "9223372036854775807000000000000000000": num(math.MaxInt64, 18), "10000000000000000000": num(10, 18),
	} {
		writes(t, x, s)
	}
	for _, x := range []api.Expr{
		num(-1, 0), num(-5, -3), num(math.MinInt64, 0), num(math.MinInt64, 18), num(-10, 18), // below 0
		num(10, 0), num(100, -2), num(0, 1), num(0, -1), num(0, 17), num(0, 18), num(0, -18), num(1, 19), num(1, -19), num(1, math.MaxInt), num(1, math.MinInt), num(0, 19), // not right
	} {
		wrong(t, x, api.ErrArg)
		wrong(t, neg(x), api.ErrArg)
	}
}

func TestRightTexts(t *testing.T) {
	most := strings.Repeat("a", 255)
	for _, s := range []string{"", "x", `"`, " ", "\t\n\r", "\u00f1\u4f60\U0001f600", "\ufffd", most, strings.Repeat(`"`, 255), strings.Repeat("\u00f1", 127)} {
		writes(t, text(s), `"`+strings.ReplaceAll(s, `"`, `""`)+`"`)
	}
	for _, s := range []string{"\x00", "\x01", "\x0b", "\x1f", "\xff", "\xc0\x80", "\xed\xa0\x80", "a\x80", "\ufffe", "\uffff", most + "a", strings.Repeat("\u00f1", 128), strings.Repeat("a", 1<<20), strings.Repeat("\xff", 300)} {
		wrong(t, text(s), api.ErrArg)
		wrong(t, bin(text(s), "&", text("x")), api.ErrArg)
	}
}

func TestRightReferences(t *testing.T) {
	for _, s := range []string{"A1", "$A$1", "BL512", "S!A1", "'it''s'!$A1", "TRUE!A1", "'" + strings.Repeat("b ", 15) + "b'!BL512"} {
		writes(t, ref(s), s)
		writes(t, area(s+":B2"), s+":B2")
		writes(t, area(s+":$B$2"), s+":$B$2")
	}
	for _, r := range []api.Ref{{}, {Col: 1}, {Row: 1}, {Col: 65, Row: 1}, {Col: 1, Row: 513}, {Col: -1, Row: 1}, {Col: 1, Row: math.MinInt}, {Col: math.MaxInt, Row: 1}, {Sheet: "/", Col: 1, Row: 1}, {Sheet: "'", Col: 1, Row: 1}, {Sheet: "\u00f1", Col: 1, Row: 1}, {Sheet: strings.Repeat("a", 32), Col: 1, Row: 1}} {
		wrong(t, api.Expr{Kind: api.XRef, Ref: r}, api.ErrArg)
		good := api.Ref{Sheet: r.Sheet, Col: 1, Row: 1}
		wrong(t, api.Expr{Kind: api.XRange, Ref: r, To: good}, api.ErrArg)
		wrong(t, api.Expr{Kind: api.XRange, Ref: good, To: r}, api.ErrArg)
	}
	for _, two := range [][2]string{{"A1", "S!B2"}, {"S!A1", "B2"}, {"S!A1", "T!B2"}, {"S!A1", "s!B2"}, {"'a b'!A1", "ab!B2"}} {
		wrong(t, api.Expr{Kind: api.XRange, Ref: at(two[0]), To: at(two[1])}, api.ErrArg)
	}
}

func TestRightNames(t *testing.T) {
	for _, s := range []string{"x", "_", "a.b", "SUM", "E", "true", "A0", "a1", strings.Repeat("n", 512)} {
		writes(t, name(s), s)
	}
	for _, s := range []string{"", "TRUE", "FALSE", "A1", "ZZ1", "LOG10", " x", "x ", "x y", "1", "1x", "x(", "$", "x$", "S!A1", "#REF!", "x+y", "\u00f1", "x\x00", strings.Repeat("n", 513)} {
		wrong(t, name(s), api.ErrArg)
	}
	for _, s := range []string{"F", "SUM", "LOG10", "A1", "TRUE", "FALSE", "A.B", "A.", "E5", strings.Repeat("A", 20)} {
		writes(t, call(s), s+"()")
	}
	for _, s := range []string{"", "f", "Sum", "1", "1A", ".A", "_", "A_", "A B", " A", "A ", "A(", "\u00c4", "A\x00", "A$", strings.Repeat("A", 21), strings.Repeat("A", 1<<20)} {
		wrong(t, call(s), api.ErrArg)
		wrong(t, call(s, num(1, 0)), api.ErrArg)
	}
}

// TestRightKids asks too few and too many of them.
func TestRightKids(t *testing.T) {
	for n := range 40 {
		x := api.Expr{}
		for range n {
			x.Kids = append(x.Kids, num(1, 0))
		}
		for _, y := range []api.Expr{{Kind: api.XNeg}, {Kind: api.XPct}, {Kind: api.XBin, Op: api.OAdd}, {Kind: api.XCall, Name: "F"}, {Kind: api.XBad}, num(1, 0), text("x"), truth(true), ref("A1"), area("A1:B2"), name("x")} {
			y.Kids = x.Kids
			right := n == 0
			switch y.Kind {
			case api.XNeg, api.XPct:
				right = n == 1
			case api.XBin:
				right = n == 2
			case api.XCall:
				right = n <= 32
			}
			if right {
				is(t, expr.Right(y), api.OK, "Right", y.Kind, n)
			} else {
				wrong(t, y, api.ErrArg)
			}
		}
	}
}

func TestRightDepth(t *testing.T) {
	one := num(1, 0)
	plus := func(x api.Expr) api.Expr { return bin(one, "+", x) }
	ahead := func(x api.Expr) api.Expr { return bin(x, "^", one) }
	within := func(x api.Expr) api.Expr { return call("F", one, x, one) }
	for _, way := range []func(api.Expr) api.Expr{neg, pct, plus, ahead, within} {
		for n := 28; n < 32; n++ {
			is(t, expr.Right(times(n, way, one)), api.OK, "Right", n)
		}
		for _, n := range []int{32, 33, 100, 1000, 1 << 16} {
			wrong(t, times(n, way, one), api.ErrDeep)
		}
	}
	wrong(t, times(100000, neg, api.Expr{}), api.ErrArg)
	wrong(t, api.Expr{Kind: api.XNeg, Name: "x", Kids: []api.Expr{times(100, neg, one)}}, api.ErrArg)
}

// bush is a tree of n nodes that stand few within one another.
func bush(n int) api.Expr {
	x := call("F")
	for left := n - 1; left > 0; left -= 32 {
		y := call("G")
		for range min(left, 32) - 1 {
			y.Kids = append(y.Kids, bad())
		}
		x.Kids = append(x.Kids, y)
	}
	return x
}

func TestRightNodes(t *testing.T) {
	ones := func(n int) api.Expr {
		x := bush(n)
		for i := range x.Kids {
			for j := range x.Kids[i].Kids {
				x.Kids[i].Kids[j] = num(1, 0)
			}
		}
		return x
	}
	for _, n := range []int{1, 2, 100, 199, 200} {
		is(t, expr.Right(ones(n)), api.OK, "Right", n)
	}
	for _, n := range []int{201, 202, 400, 1000} {
		wrong(t, ones(n), api.ErrBig)
		wrong(t, neg(ones(n)), api.ErrBig)
		wrong(t, bin(ones(n), "+", times(32, neg, bad())), api.ErrDeep)
		wrong(t, bin(ones(n), "+", api.Expr{}), api.ErrArg)
	}
	wrong(t, bush(200), api.ErrBig) // too long, as it is written
}

// TestRightLength asks of formulas that are written in 512 bytes, and in one more.
func TestRightLength(t *testing.T) {
	n := func(size int) api.Expr { return name(strings.Repeat("n", size)) }
	a := func(size int) api.Expr { return text(strings.Repeat("a", size)) }
	quotes := text(strings.Repeat(`"`, 126))
	for _, two := range [][2]api.Expr{
		{neg(n(511)), neg(n(512))},
		{pct(n(511)), pct(n(512))},
		{call("F", n(509)), call("FF", n(509))},
		{call("F", n(9), n(499)), call("F", n(9), n(500))},
		{bin(n(10), "+", n(501)), bin(n(10), "<>", n(501))},
	} {
		fits(t, two[0], 512)
		wrong(t, two[1], api.ErrBig)
	}
	fits(t, n(512), 512)
	fits(t, bin(a(253), "&", a(254)), 512)
	wrong(t, bin(a(254), "&", a(254)), api.ErrBig)
	fits(t, bin(bin(quotes, "&", quotes), "&", a(0)), 512)
	wrong(t, bin(bin(quotes, "&", quotes), "&", a(1)), api.ErrBig)
	wrong(t, bin(quotes, "&", bin(quotes, "&", a(0))), api.ErrBig)
	fits(t, neg(bin(n(300), "+", n(208))), 512)
	wrong(t, neg(bin(n(300), "+", n(209))), api.ErrBig)
	wrong(t, neg(bin(n(300), ">=", n(208))), api.ErrBig)
	fits(t, text(strings.Repeat(`"`, 255)), 512)
	wrong(t, neg(text(strings.Repeat(`"`, 255))), api.ErrBig)
	long := call("F", slices.Repeat([]api.Expr{num(1, 18)}, 25)...)
	fits(t, long, 502)
	wrong(t, bin(long, "+", call("F", n(8))), api.ErrBig)
	wrong(t, bin(neg(n(512)), "+", times(32, neg, bad())), api.ErrDeep)
	wrong(t, bin(neg(n(512)), "+", api.Expr{}), api.ErrArg)
}

// fits asks whether x is right, and written in so many bytes.
func fits(t *testing.T, x api.Expr, size int) {
	t.Helper()
	s, e := expr.Print(x)
	is(t, e, api.OK, "Print", x)
	is(t, len(s), size, "bytes of", s)
	is(t, expr.Right(x), api.OK, "Right", x)
}

func TestRightByModel(t *testing.T) {
	r := rand.New(rand.NewSource(1203))
	count := map[api.Errno]int{}
	for range 100000 {
		x := anyTree(r, 1+r.Intn(4))
		want := modelRight(x)
		got := expr.Right(x)
		if want == api.OK && len(modelPrint(x)) > 512 {
			want = api.ErrBig
		}
		is(t, got, want, "Right", x)
		count[got]++
	}
	if count[api.OK] < 10000 || count[api.ErrArg] < 10000 {
		t.Errorf("%v", count)
	}
}

// P1203

func TestPrint(t *testing.T) {
	for s, want := range map[string]string{
		"1+2*3^2%": "1+2*3^2%", "-2^2": "-2^2", "-(2^2)": "-(2^2)", "(1+2)*3": "(1+2)*3", "SUM(A1:B2,x)": "SUM(A1:B2,x)", "a=b=c": "a=b=c", "(a=b)=c": "a=b=c", "a=(b=c)": "a=(b=c)",
		" ( ( 1 ) ) ": "1", "1E3": "1000", "0.50": "0.5", "F ( 1 , (2) )": "F(1,2)", "F((1+2))": "F(1+2)", "(F())%": "F()%", "TRUE = FALSE": "TRUE=FALSE", `"a""b" & ""`: `"a""b"&""`, "'a b'!$A1 : B$2": "'a b'!$A1:B$2", "#REF! + 1": "#REF!+1", "(A1:B2)%": "A1:B2%", "-(-(1))": "--1", "((1)%)%": "1%%", "-(1%)": "-1%", "(-1)%": "(-1)%", "2^(-1)": "2^-1", "(-2)^2": "-2^2", "-(2*3)": "-(2*3)", "(-2)*3": "-2*3", "2*(-3)": "2*-3", "1-(2-3)": "1-(2-3)", "1-(2*3)": "1-2*3", "(1*2)-3": "1*2-3", "(1-2)-3": "1-2-3", "(2^3)^2": "2^3^2", "2^(3^2)": "2^(3^2)", "2^(3%)": "2^3%", "(2^3)%": "(2^3)%", "(a&b)=(c&d)": "a&b=c&d", "a&(b=c)": "a&(b=c)", "(a=b)&c": "(a=b)&c", "-(F(1))": "-F(1)", "-(x)": "-x",
	} {
		x, _, e := expr.Parse(s)
		is(t, e, api.OK, "Parse", s)
		writes(t, x, want)
	}
}

// TestPrintParentheses asks of each two operators, one in the other on either side, whether parentheses stand around it.
func TestPrintParentheses(t *testing.T) {
	a, b, c := name("a"), name("b"), name("c")
	for i, outer := range levels() {
		for _, p := range outer {
			for j, inner := range levels() {
				for _, q := range inner {
					left, right := "a"+q+"b"+p+"c", "a"+p+"b"+q+"c"
					if j < i {
						left = "(a" + q + "b)" + p + "c"
					}
					if j <= i {
						right = "a" + p + "(b" + q + "c)"
					}
					writes(t, bin(bin(a, q, b), p, c), left)
					writes(t, bin(a, p, bin(b, q, c)), right)
				}
			}
			writes(t, neg(bin(a, p, b)), "-(a"+p+"b)")
			writes(t, pct(bin(a, p, b)), "(a"+p+"b)%")
			writes(t, bin(neg(a), p, neg(b)), "-a"+p+"-b")
			writes(t, bin(pct(a), p, pct(b)), "a%"+p+"b%")
			writes(t, call("F", bin(a, p, b), bin(b, p, a)), "F(a"+p+"b,b"+p+"a)")
			for _, x := range []api.Expr{num(1, 0), text("x"), truth(true), ref("A1"), area("A1:B2"), call("F"), bad()} {
				s, _ := expr.Print(x)
				writes(t, bin(x, p, x), s+p+s)
			}
		}
	}
	for s, x := range eachKind() {
		if x.Kind != api.XBin && x.Kind != api.XNeg {
			writes(t, pct(x), s+"%")
			writes(t, neg(x), "-"+s)
		}
		writes(t, call("F", x), "F("+s+")")
	}
	writes(t, pct(neg(a)), "(-a)%")
	writes(t, neg(pct(a)), "-a%")
	writes(t, neg(neg(a)), "--a")
	writes(t, pct(pct(a)), "a%%")
}

// TestPrintByModel holds Print against the fewest parentheses that can be, of all small trees and of any ones.
func TestPrintByModel(t *testing.T) {
	grow := func(l []api.Expr) (more []api.Expr) {
		for _, a := range l {
			more = append(more, neg(a), pct(a))
			for _, sign := range []string{"=", "<", "&", "+", "-", "*", "^"} {
				for _, b := range l {
					more = append(more, bin(a, sign, b))
				}
			}
		}
		return append(more, l...)
	}
	for _, x := range grow(grow([]api.Expr{name("a"), call("F")})[:20]) {
		writes(t, x, modelPrint(x))
	}
	r := rand.New(rand.NewSource(1204))
	for range 20000 {
		x := anyRight(r, 1+r.Intn(5))
		if s := modelPrint(x); len(s) <= 512 && modelNodes(x) <= 200 {
			writes(t, x, s)
		}
	}
}

// TestPrintLeaves asks that Print changes nothing of what it is given.
func TestPrintLeaves(t *testing.T) {
	r := rand.New(rand.NewSource(1205))
	for range 2000 {
		x := roomy(anyTree(r, 4))
		kept := copied(x)
		expr.Print(x)
		expr.Right(x)
		becomes(t, x, kept, "Print changed")
		is(t, spared(x), true, "Print spared")
	}
}
