package funcs_test

import (
	"math"
	"testing"

	"quire/api"
)

// P1601: the functions of numbers.

// mixed are areas in which not all are numbers.
func mixed() []any {
	return []any{row(1, "'x", true), column("'5", "", 2, false), row("'", "'TRUE")}
}

func TestNumbersOfArguments(t *testing.T) {
	ask(t, 3, "SUM", mixed()...)
	ask(t, 2, "PRODUCT", mixed()...)
	ask(t, 1, "MIN", mixed()...)
	ask(t, 2, "MAX", mixed()...)
	ask(t, "1.5", "AVERAGE", mixed()...)
	ask(t, 2, "COUNT", mixed()...)
	ask(t, 8, "COUNTA", mixed()...)
	// What counts in no area counts alone.
	ask(t, 1, "SUM", true)
	ask(t, 0, "SUM", row(true))
	ask(t, 5, "SUM", "'5", "' 5 ", row("'5"), "-5", "")
	ask(t, fail(api.EValue), "SUM", "'x")
	ask(t, fail(api.EValue), "SUM", text(""))
	ask(t, fail(api.ENum), "SUM", "'1e400")
	ask(t, 0, "SUM", row("'x", text(""), "'1e400"))
	ask(t, 0, "MIN", "", 3)
	ask(t, 3, "MIN", row(""), 3)
	ask(t, 0, "MAX", "", -3)
	ask(t, -3, "MAX", row("", true), -3)
	ask(t, 0, "PRODUCT", "", 5)
	ask(t, 5, "PRODUCT", row(""), 5)
	ask(t, "1.5", "AVERAGE", "", 3)
	ask(t, 3, "AVERAGE", row(""), 3)
}

func TestErrorsAmongNumbers(t *testing.T) {
	for _, name := range []string{"SUM", "PRODUCT", "MIN", "MAX", "AVERAGE"} {
		ask(t, fail(api.ENA), name, 1, row(1, "#N/A", "#REF!"), "#DIV/0!")
		ask(t, fail(api.ERef), name, 1, area(2, 2, 1, "#REF!", "#N/A", 1), "#DIV/0!")
		ask(t, fail(api.ERef), name, 1, area(2, 2, 1, 1, "#REF!", "#N/A"), "#DIV/0!")
		ask(t, fail(api.EDiv), name, 1, "#DIV/0!", row(1, "#N/A", "#REF!"))
		ask(t, fail(api.EValue), name, 1, "'x", row("#N/A"))
		ask(t, fail(api.ENA), name, row("'x"), row("#N/A"), "'x")
		ask(t, fail(api.ECycle), name, "#CYCLE!")
	}
	ask(t, 2, "COUNT", "#N/A", 1, "'x", text(""), row("#N/A", 1, "'1", ""))
	ask(t, 1, "COUNT", "")
	ask(t, 0, "COUNT", row(""))
	ask(t, 2, "COUNT", "'1", true)
	ask(t, 0, "COUNT", "'1e400")
	ask(t, 3, "COUNTA", "#N/A", text(""), row("", "#REF!"), "")
	ask(t, 0, "COUNTA", "")
	ask(t, 3, "COUNTBLANK", row("", text(""), 0, "' ", "#N/A", false, ""))
	ask(t, 1, "COUNTBLANK", "")
	ask(t, 1, "COUNTBLANK", text(""))
	ask(t, 0, "COUNTBLANK", "#N/A")
	ask(t, 64*512, "COUNTBLANK", full(64, 512, ""))
	ask(t, 64*512, "COUNT", full(64, 512, 1))
	ask(t, 32*64*512, "COUNTA", times(32, full(64, 512, 1))...)
}

func TestNumbersOfNone(t *testing.T) {
	for _, name := range []string{"SUM", "PRODUCT", "MIN", "MAX", "COUNT"} {
		ask(t, 0, name, row("'x"))
		ask(t, 0, name, row("", ""), column(true, "'1"))
	}
	ask(t, fail(api.EDiv), "AVERAGE", row("'x"))
	ask(t, fail(api.EDiv), "AVERAGE", row("", ""), column(true, "'1"))
}

// What can't be told between is not told at all, whatever comes behind it.
func TestSumsAndProductsOneByOne(t *testing.T) {
	great, tiny := num(math.MaxInt64, 0), num(1, -18)
	ask(t, fail(api.ENum), "SUM", great, 1)
	ask(t, fail(api.ENum), "SUM", great, 1, -1)
	ask(t, great, "SUM", great, -1, 1)
	ask(t, fail(api.ENum), "SUM", row(great, 1), row(-1))
	ask(t, great, "SUM", row(great, -1), row(1))
	ask(t, fail(api.ENum), "SUM", great, tiny)
	ask(t, tiny, "SUM", great, num(-math.MaxInt64, 0), tiny)
	ask(t, fail(api.ENum), "SUM", great, tiny, num(-math.MaxInt64, 0))
	ask(t, fail(api.ENum), "PRODUCT", great, 2, 0)
	ask(t, 0, "PRODUCT", great, 0, 2)
	half := num(1<<62, 0)
	ask(t, fail(api.ENum), "PRODUCT", half, 2, "0.5")
	ask(t, half, "PRODUCT", half, "0.5", 2)
	ask(t, fail(api.ENum), "PRODUCT", tiny, "0.1", 10)
	ask(t, tiny, "PRODUCT", tiny, 10, "0.1")
	ask(t, fail(api.ENum), "AVERAGE", great, 1, -1)
	ask(t, fail(api.ENum), "AVERAGE", 1, 1, 2)
	ask(t, 0, "AVERAGE", 1, 1, -2)
	ask(t, "0.3", "SUM", "0.1", "0.2")
	ask(t, great, "MAX", great, num(math.MinInt64, 18), tiny)
	ask(t, num(math.MinInt64, 18), "MIN", great, num(math.MinInt64, 18), tiny)
	ask(t, num(math.MinInt64, 0), "MIN", num(math.MinInt64, 0))
	ask(t, num(math.MinInt64, 0), "SUM", num(math.MinInt64, 0))
}

func TestReckonings(t *testing.T) {
	ask(t, "2.5", "ABS", "-2.5")
	ask(t, "2.5", "ABS", "2.5")
	ask(t, 0, "ABS", "")
	ask(t, num(math.MaxInt64, 18), "ABS", num(-math.MaxInt64, 18))
	ask(t, fail(api.ENum), "ABS", num(math.MinInt64, 0))
	ask(t, num(math.MaxInt64, 0), "ABS", num(math.MaxInt64, 0))
	ask(t, -1, "SIGN", "-0.000000000000000001")
	ask(t, 0, "SIGN", 0)
	ask(t, 1, "SIGN", true)
	ask(t, -3, "INT", "-2.1")
	ask(t, 2, "INT", "2.9")
	ask(t, 0, "INT", "0.5")
	ask(t, -1, "INT", num(-1, -18))
	ask(t, 2, "MOD", -7, 3)
	ask(t, -2, "MOD", 7, -3)
	ask(t, fail(api.EDiv), "MOD", 7, 0)
	ask(t, fail(api.EDiv), "MOD", 7, "")
	ask(t, "0.25", "POWER", 2, -2)
	ask(t, 1, "POWER", 0, 0)
	ask(t, fail(api.EDiv), "POWER", 0, -1)
	ask(t, fail(api.ENum), "POWER", 2, "0.5")
	ask(t, fail(api.ENum), "POWER", 1, 65)
	ask(t, fail(api.ENum), "POWER", 10, 64)
	ask(t, 1, "POWER", 1, 64)
	ask(t, fail(api.EValue), "POWER", "'x", 2)
}

func TestRound(t *testing.T) {
	ask(t, "2.35", "ROUND", "2.345", 2)
	ask(t, -3, "ROUND", "-2.5", 0)
	ask(t, 1300, "ROUND", 1250, -2)
	ask(t, 2, "ROUND", "2.4", "")
	ask(t, 3, "ROUND", "2.5", false)
	for _, n := range []api.Value{num(15, -1), num(0, 0), num(1, -18), num(1, 18), num(5, 17), num(-5, 17), num(4, 17)} {
		for _, places := range []int{19, -19, 1 << 53, -1 << 53, 20, -20} {
			ask(t, fail(api.ENum), "ROUND", n, places)
		}
		ask(t, fail(api.ENum), "ROUND", n, "1e18")
		ask(t, fail(api.ENum), "ROUND", n, "-18.5")
		ask(t, n, "ROUND", n, 18)
		ask(t, n, "ROUND", n, "18.9")
	}
	ask(t, num(1, 18), "ROUND", num(5, 17), -18)
	ask(t, num(-1, 18), "ROUND", num(-5, 17), -18)
	ask(t, 0, "ROUND", num(4, 17), -18)
	ask(t, num(5, 17), "ROUND", num(5, 17), -17)
	ask(t, "0.1", "ROUND", "0.05", 1)
}
