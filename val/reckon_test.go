package val_test

import (
	"math"
	"math/rand"
	"testing"

	"quire/api"
	"quire/val"
)

// P1303

// TestCmpInOrder asks each two of a list whose groups rise, what is in one group being alike.
func TestCmpInOrder(t *testing.T) {
	groups := [][]api.Value{
		{num(least, 18)}, {num(-1, 18)}, {num(-2, 0)}, {num(-1, 0)}, {num(-1, -18)}, {num(0, 0)}, {num(1, -18)}, {num(1, 0)}, {num(15, -1)}, {num(2, 0)}, {num(1, 1)}, {num(greatest, 18)},
		{text("")}, {text(" ")}, {text("0")}, {text("1")}, {text("10")}, {text("2")}, {text("[")}, {text("_")},
		{text("a"), text("A")},
		{text("a ")},
		{text("aB"), text("Ab"), text("ab"), text("AB")},
		{text("abc"), text("ABC")},
		{text("b"), text("B")},
		{text("false"), text("FALSE")}, {text("true"), text("TRUE")},
		{text("z"), text("Z")}, {text("zz"), text("zZ")},
		{text("{")},
		{text("Ñ")}, {text("ñ")}, {text("ÿ")}, {text("你")},
		{truth(false)}, {truth(true)},
	}
	for i, l := range groups {
		for j, m := range groups {
			want := 0
			if i < j {
				want = -1
			} else if i > j {
				want = 1
			}
			for _, a := range l {
				for _, b := range m {
					is(t, val.Cmp(a, b), want, "Cmp", a, b)
				}
			}
		}
	}
}

func TestCmpOfEmpty(t *testing.T) {
	is(t, val.Cmp(empty, empty), 0, "Cmp of two empty ones")
	for _, x := range []struct {
		v    api.Value
		want int
	}{
		{num(0, 0), 0},
		{num(1, 0), -1},
		{num(1, -18), -1},
		{num(-1, 0), 1},
		{num(-1, -18), 1},
		{text(""), 0},
		{text(" "), -1},
		{text("0"), -1},
		{text("\t"), -1},
		{text("FALSE"), -1},
		{truth(false), 0},
		{truth(true), -1},
	} {
		is(t, val.Cmp(empty, x.v), x.want, "Cmp of empty and", x.v)
		is(t, val.Cmp(x.v, empty), -x.want, "Cmp of", x.v)
	}
}

func TestCmpOfErrors(t *testing.T) {
	for i := range names {
		stop(t)
		for _, v := range rightValues() {
			is(t, val.Cmp(fail(i+1), v), 0, "Cmp", names[i], v)
			is(t, val.Cmp(v, fail(i+1)), 0, "Cmp", v, names[i])
		}
	}
}

// P1304

func TestBinReckons(t *testing.T) {
	for _, x := range []struct {
		op         int
		a, b, want api.Value
	}{
		{api.OAdd, text("2"), truth(true), num(3, 0)},
		{api.OAdd, num(1, -1), num(2, -1), num(3, -1)},
		{api.OAdd, empty, empty, num(0, 0)},
		{api.OAdd, text(" 2 "), text("1e1"), num(12, 0)},
		{api.OAdd, num(greatest, 0), num(1, 0), fail(api.ENum)},
		{api.OAdd, num(1, 18), num(1, -18), fail(api.ENum)},
		{api.OSub, num(1, 0), num(3, 0), num(-2, 0)},
		{api.OSub, text("1"), truth(true), num(0, 0)},
		{api.OSub, empty, text("0.5"), num(-5, -1)},
		{api.OSub, num(least, 0), num(1, 0), fail(api.ENum)},
		{api.OMul, num(2, 0), num(5, 0), num(1, 1)},
		{api.OMul, text("3"), text("-4"), num(-12, 0)},
		{api.OMul, truth(false), num(4, 0), num(0, 0)},
		{api.OMul, num(greatest, 0), num(3, 0), fail(api.ENum)},
		{api.OMul, num(1, -18), num(1, -18), fail(api.ENum)},
		{api.ODiv, num(1, 0), num(4, 0), num(25, -2)},
		{api.ODiv, num(1, 0), num(3, 0), fail(api.ENum)},
		{api.ODiv, num(1, 0), num(0, 0), fail(api.EDiv)},
		{api.ODiv, num(0, 0), num(0, 0), fail(api.EDiv)},
		{api.ODiv, num(1, 0), empty, fail(api.EDiv)},
		{api.ODiv, num(1, 0), truth(false), fail(api.EDiv)},
		{api.ODiv, num(1, 0), text("0.0"), fail(api.EDiv)},
		{api.ODiv, empty, num(7, 0), num(0, 0)},
		{api.OPow, num(2, 0), num(10, 0), fail(api.EValue)}, // 10, 0 is not right
		{api.OPow, num(2, 0), num(1, 1), num(1024, 0)},
		{api.OPow, num(2, 0), num(-2, 0), num(25, -2)},
		{api.OPow, num(2, 0), num(62, 0), num(1<<62, 0)},
		{api.OPow, num(2, 0), num(63, 0), fail(api.ENum)},
		{api.OPow, num(1, 0), num(64, 0), num(1, 0)},
		{api.OPow, num(1, 0), num(65, 0), fail(api.ENum)},
		{api.OPow, num(4, 0), num(5, -1), fail(api.ENum)},
		{api.OPow, num(3, 0), num(-1, 0), fail(api.ENum)},
		{api.OPow, num(0, 0), num(-1, 0), fail(api.EDiv)},
		{api.OPow, empty, empty, num(1, 0)},
		{api.OPow, text("-2"), text("3"), num(-8, 0)},
	} {
		is(t, val.Bin(x.op, x.a, x.b), x.want, "Bin", x.op, x.a, x.b)
	}
}

// TestBinOfTexts asks texts that are no numbers: the first one says what is wrong.
func TestBinOfTexts(t *testing.T) {
	value, number := text("x"), text("1e400")
	for op := api.OAdd; op <= api.OPow; op++ {
		for _, fine := range []api.Value{empty, num(1, 0), truth(true), text("1")} {
			is(t, val.Bin(op, value, fine), fail(api.EValue), "Bin", op, fine)
			is(t, val.Bin(op, fine, value), fail(api.EValue), "Bin", op, fine)
			is(t, val.Bin(op, number, fine), fail(api.ENum), "Bin", op, fine)
			is(t, val.Bin(op, fine, number), fail(api.ENum), "Bin", op, fine)
			is(t, val.Bin(op, text(""), fine), fail(api.EValue), "Bin", op, fine)
			is(t, val.Bin(op, fine, text("TRUE")), fail(api.EValue), "Bin", op, fine)
		}
		is(t, val.Bin(op, value, number), fail(api.EValue), "Bin", op)
		is(t, val.Bin(op, number, value), fail(api.ENum), "Bin", op)
		is(t, val.Bin(op, value, fail(api.ERef)), fail(api.ERef), "Bin: errors ahead of what Num says", op)
		is(t, val.Bin(op, number, num(0, 0)), fail(api.ENum), "Bin", op)
	}
}

func TestBinJoins(t *testing.T) {
	for _, x := range []struct{ a, b, want api.Value }{
		{num(15, -1), empty, text("1.5")},
		{empty, empty, text("")},
		{empty, text("x"), text("x")},
		{text("a"), text("B"), text("aB")},
		{text("a "), text(" b"), text("a  b")},
		{num(1, 0), num(2, 0), text("12")},
		{num(12, 1), num(-5, -3), text("120-0.005")},
		{truth(true), truth(false), text("TRUEFALSE")},
		{text("x"), truth(true), text("xTRUE")},
		{text("1e400"), num(1, 0), text("1e4001")},
		{text("#N/"), text("A"), text("#N/A")},
		{text("你"), text("ñ"), text("你ñ")},
		{text(long(255)), empty, text(long(255))},
		{text(long(255)), text(""), text(long(255))},
		{text(long(254)), text("a"), text(long(255))},
		{text("a"), text(long(254)), text(long(255))},
		{text(long(254)), num(1, 0), text(long(254) + "1")},
		{text(long(255)), text("a"), fail(api.EValue)},
		{text("a"), text(long(255)), fail(api.EValue)},
		{text(long(128)), text(long(128)), fail(api.EValue)},
		{text(long(252)), truth(true), fail(api.EValue)},
		{text(long(251)), truth(true), text(long(251) + "TRUE")},
		{text(long(255)), text(long(255)), fail(api.EValue)},
	} {
		is(t, val.Bin(api.OCat, x.a, x.b), x.want, "Bin OCat", x.a, x.b)
	}
}

func TestBinCompares(t *testing.T) {
	signs := []int{api.OEq, api.ONe, api.OLt, api.OLe, api.OGt, api.OGe}
	for _, x := range []struct {
		a, b api.Value
		want [6]bool
	}{
		{num(1, 0), num(2, 0), [6]bool{false, true, true, true, false, false}},
		{num(2, 0), num(2, 0), [6]bool{true, false, false, true, false, true}},
		{num(2, 0), num(1, 0), [6]bool{false, true, false, false, true, true}},
		{text("a"), text("A"), [6]bool{true, false, false, true, false, true}},
		{text("2"), num(3, 0), [6]bool{false, true, false, false, true, true}}, // not as numbers
		{text("2"), num(2, 0), [6]bool{false, true, false, false, true, true}},
		{truth(true), text("TRUE"), [6]bool{false, true, false, false, true, true}},
		{truth(true), num(1, 0), [6]bool{false, true, false, false, true, true}},
		{truth(false), truth(true), [6]bool{false, true, true, true, false, false}},
		{empty, num(0, 0), [6]bool{true, false, false, true, false, true}},
		{empty, text(""), [6]bool{true, false, false, true, false, true}},
		{empty, truth(false), [6]bool{true, false, false, true, false, true}},
		{empty, empty, [6]bool{true, false, false, true, false, true}},
		{empty, text("a"), [6]bool{false, true, true, true, false, false}},
	} {
		for i, op := range signs {
			is(t, val.Bin(op, x.a, x.b), truth(x.want[i]), "Bin", op, x.a, x.b)
		}
	}
}

func TestBinOfErrors(t *testing.T) {
	for _, op := range ops {
		for i := range names {
			stop(t)
			one := fail(i + 1)
			for _, v := range rightValues() {
				is(t, val.Bin(op, one, v), one, "Bin", op, one, v)
				if v.Kind != api.VErr {
					is(t, val.Bin(op, v, one), one, "Bin", op, v, one)
				}
			}
		}
	}
}

func TestBinOfNoOperator(t *testing.T) {
	for _, op := range []int{0, -1, 13, 14, 100, math.MaxInt, math.MinInt} {
		for _, a := range rightValues() {
			stop(t)
			for _, b := range rightValues() {
				if a.Kind != api.VErr && b.Kind != api.VErr {
					is(t, val.Bin(op, a, b), fail(api.EValue), "Bin", op, a, b)
				}
			}
		}
	}
}

func TestNegAndPct(t *testing.T) {
	for _, x := range []struct{ v, neg, pct api.Value }{
		{empty, num(0, 0), num(0, 0)},
		{truth(true), num(-1, 0), num(1, -2)},
		{truth(false), num(0, 0), num(0, 0)},
		{num(0, 0), num(0, 0), num(0, 0)},
		{num(5, 0), num(-5, 0), num(5, -2)},
		{num(-25, -1), num(25, -1), num(-25, -3)},
		{num(1, 2), num(-1, 2), num(1, 0)},
		{num(1, -16), num(-1, -16), num(1, -18)},
		{num(1, -17), num(-1, -17), fail(api.ENum)},
		{num(greatest, 0), num(-greatest, 0), num(greatest, -2)},
		{num(least, 0), fail(api.ENum), num(least, -2)},
		{num(least, 18), fail(api.ENum), num(least, 16)},
		{num(10, 18), num(-10, 18), num(1, 17)},
		{text("2"), num(-2, 0), num(2, -2)},
		{text(" -2 "), num(2, 0), num(-2, -2)},
		{text("x"), fail(api.EValue), fail(api.EValue)},
		{text(""), fail(api.EValue), fail(api.EValue)},
		{text("TRUE"), fail(api.EValue), fail(api.EValue)},
		{text("1e400"), fail(api.ENum), fail(api.ENum)},
	} {
		is(t, val.Neg(x.v), x.neg, "Neg", x.v)
		is(t, val.Pct(x.v), x.pct, "Pct", x.v)
	}
	for i := range names {
		is(t, val.Neg(fail(i+1)), fail(i+1), "Neg", names[i])
		is(t, val.Pct(fail(i+1)), fail(i+1), "Pct", names[i])
	}
}

// P1306

// TestAnswersAreRight asks it of every call, of values that are not right too.
func TestAnswersAreRight(t *testing.T) {
	all := append(rightValues(), wrongValues()...)
	r := rand.New(rand.NewSource(1304))
	for range 300 {
		all = append(all, anyValue(r))
	}
	rightly := func(v api.Value, what string, of ...any) {
		t.Helper()
		is(t, val.Right(v), true, what, of...)
	}
	for _, a := range all {
		stop(t)
		rightly(val.Num(a), "Num", a)
		rightly(val.Text(a), "Text", a)
		rightly(val.Bool(a), "Bool", a)
		rightly(val.Neg(a), "Neg", a)
		rightly(val.Pct(a), "Pct", a)
		rightly(val.Str(a.S), "Str", a)
		rightly(val.Str(val.Show(a)), "Show", a)
		rightly(val.Typed(a.S), "Typed", a)
		rightly(val.Typed(val.Show(a)), "Typed", a)
		rightly(val.Of(a.N, api.OK), "Of", a)
		rightly(val.Of(a.N, api.Errno(a.Kind)), "Of", a)
		rightly(val.Err(a.E), "Err", a)
		rightly(val.Err(a.Kind), "Err", a)
		rightly(val.Truth(a.B), "Truth", a)
		for _, b := range all {
			for _, op := range ops {
				rightly(val.Bin(op, a, b), "Bin", op, a, b)
			}
		}
	}
}

// TestCmpIsAnOrder asks each three values that are no errors and not empty.
func TestCmpIsAnOrder(t *testing.T) {
	var all []api.Value
	r := rand.New(rand.NewSource(1303))
	for _, v := range rightValues() {
		if v.Kind != api.VErr && v != empty {
			all = append(all, v)
		}
	}
	for len(all) < 150 {
		if v := anyValue(r); v.Kind != api.VErr && v != empty {
			all = append(all, v)
		}
	}
	for _, a := range all {
		is(t, val.Cmp(a, a), 0, "Cmp of one and itself", a)
		for _, b := range all {
			stop(t)
			ab := val.Cmp(a, b)
			is(t, val.Cmp(b, a), -ab, "Cmp the other way round", b, a)
			is(t, ab >= -1 && ab <= 1, true, "Cmp", a, b)
			for _, c := range all {
				if bc := val.Cmp(b, c); ab <= 0 && bc <= 0 {
					is(t, val.Cmp(a, c), min(ab, bc), "Cmp through three", a, b, c)
				}
			}
		}
	}
}

// TestAnswersStay asks a call again behind others: nothing is kept.
func TestAnswersStay(t *testing.T) {
	r := rand.New(rand.NewSource(1305))
	for range 2000 {
		op, a, b := ops[r.Intn(len(ops))], anyValue(r), anyValue(r)
		first := val.Bin(op, a, b)
		val.Bin(ops[r.Intn(len(ops))], anyValue(r), anyValue(r))
		val.Typed(anyText(r))
		is(t, val.Bin(op, a, b), first, "Bin again", op, a, b)
	}
}
