package funcs_test

import (
	"math"
	"testing"

	"quire/api"
	"quire/funcs"
)

// P1601: the functions of areas.

func TestIndex(t *testing.T) {
	a := area(3, 2, 1, 2, 3, 4, 5, 6)
	for row := range 4 {
		for col := range 5 {
			want := any(fail(api.ERef))
			if row >= 1 && row <= 2 && col >= 1 && col <= 3 {
				want = (row-1)*3 + col
			}
			ask(t, want, "INDEX", a, row, col)
		}
	}
	ask(t, 1, "INDEX", a, 1)
	ask(t, 4, "INDEX", a, "2.9")
	ask(t, fail(api.ERef), "INDEX", a, 3)
	// One row: the second is the column, if there is no third.
	for n, want := range []any{fail(api.ERef), 7, 8, 9, fail(api.ERef)} {
		ask(t, want, "INDEX", row(7, 8, 9), n)
		ask(t, want, "INDEX", column(7, 8, 9), n)
		ask(t, want, "INDEX", row(7, 8, 9), 1, n)
		ask(t, want, "INDEX", column(7, 8, 9), n, 1)
	}
	ask(t, fail(api.ERef), "INDEX", row(7, 8, 9), 2, 1)
	ask(t, fail(api.ERef), "INDEX", column(7, 8, 9), 1, 2)
	ask(t, 7, "INDEX", row(7), 1)
	ask(t, 7, "INDEX", 7, 1)
	ask(t, 7, "INDEX", 7, 1, 1)
	ask(t, fail(api.ERef), "INDEX", 7, 2)
	ask(t, fail(api.ERef), "INDEX", 7, 2, 1)
	for _, none := range []any{-1, 0, "0.9", "", false, 9007199254740992, -9007199254740992} {
		ask(t, fail(api.ERef), "INDEX", a, none)
		ask(t, fail(api.ERef), "INDEX", a, none, 1)
		ask(t, fail(api.ERef), "INDEX", a, 1, none)
	}
	ask(t, fail(api.ENA), "INDEX", a, "#N/A", "#REF!")
	ask(t, fail(api.ENA), "INDEX", a, 9, "#N/A")
	ask(t, fail(api.ENum), "INDEX", a, 1, "1e18")
	ask(t, fail(api.EValue), "INDEX", a, "'x", 9)
	ask(t, fail(api.EValue), "INDEX", a, row(1, 2), 9)
	ask(t, fail(api.ENA), "INDEX", row("#DIV/0!", "#N/A"), 2)
	ask(t, 1, "INDEX", row("#DIV/0!", 1), 2)
	ask(t, empty, "INDEX", row("", 1), 1)
	ask(t, 5, "INDEX", full(64, 512, 5), 512, 64)
	ask(t, fail(api.ERef), "INDEX", full(64, 512, 5), 64, 65)
	ask(t, fail(api.ERef), "INDEX", full(64, 512, 5), 513, 64)
}

// likes are values, of which each is like those of its own list alone.
func likes() [][]any {
	return [][]any{
		{1}, {"1.5"}, {0}, {-1}, {true}, {false},
		{"'a", "'A"}, {"'ab", "'aB", "'AB"}, {"'1"}, {"'0"}, {text("")}, {"' a"}, {"'TRUE", "'true"}, {"'FALSE"}, {"'ñ"}, {"'Ñ"}, {"'#N/A"},
	}
}

func TestLike(t *testing.T) {
	for i, l := range likes() {
		for j, other := range likes() {
			for _, a := range l {
				for _, b := range other {
					want, found, n := any(fail(api.ENA)), any(fail(api.ENA)), 0
					if i == j {
						want, found, n = 3, 77, 1
					}
					ask(t, want, "MATCH", a, row("", "#REF!", b))
					ask(t, found, "VLOOKUP", a, area(2, 2, "", 76, b, 77), 2)
					ask(t, n, "COUNTIF", row("", b, "#N/A"), a)
					ask(t, 5*n, "SUMIF", row("", b, "#N/A"), a, row(3, 5, 4))
				}
			}
		}
	}
	// Nothing is like what is empty, though it stands for 0, FALSE, the empty text.
	for _, x := range []any{"", 0, false, text("")} {
		ask(t, fail(api.ENA), "MATCH", "", row(x))
		ask(t, fail(api.ENA), "VLOOKUP", "", row(x, 1), 2)
		ask(t, 0, "COUNTIF", row(x), "")
		ask(t, 0, "SUMIF", row(x), "", row(3))
		ask(t, fail(api.ENA), "MATCH", x, row(""))
		ask(t, fail(api.ENA), "VLOOKUP", x, row("", 1), 2)
		ask(t, 0, "COUNTIF", row("", ""), x)
		ask(t, 0, "SUMIF", row("", ""), x, row(3, 4))
	}
}

func TestMatch(t *testing.T) {
	ask(t, 2, "MATCH", 2, row(1, 2, 3))
	ask(t, 2, "MATCH", 2, column(1, 2, 3))
	ask(t, 2, "MATCH", 2, row(1, 2, 2), 0)
	ask(t, 1, "MATCH", 2, row(2))
	ask(t, 1, "MATCH", 2, 2)
	ask(t, fail(api.ENA), "MATCH", 2, 3)
	ask(t, 3, "MATCH", "'X", row("#N/A", "", "'x"))
	ask(t, 2, "MATCH", row(2), row(1, 2), "0.5")
	ask(t, 2, "MATCH", 2, row(1, 2), "")
	ask(t, 2, "MATCH", 2, row(1, 2), false)
	ask(t, 2, "MATCH", 2, row(1, 2), row(0))
	ask(t, 512, "MATCH", 2, column(append(times(511, 1), 2)...))
	wide := area(2, 2, 1, 2, 3, 4)
	ask(t, fail(api.ENA), "MATCH", 9, row(1, 2))
	// The first of all that is wrong.
	ask(t, fail(api.EDiv), "MATCH", "#DIV/0!", wide, "#N/A")
	ask(t, fail(api.EDiv), "MATCH", "#DIV/0!", row("#DIV/0!"))
	ask(t, fail(api.EDiv), "MATCH", "#DIV/0!", row(1), 1)
	ask(t, fail(api.EValue), "MATCH", row(1, 2), wide, "#N/A")
	ask(t, fail(api.ENA), "MATCH", 1, wide, "#N/A")
	ask(t, fail(api.ENum), "MATCH", 1, wide, "1e18")
	ask(t, fail(api.EValue), "MATCH", 1, wide, "'x")
	ask(t, fail(api.EValue), "MATCH", 1, row(1), row(0, 0))
	for _, how := range []any{1, -1, "-0.5", true, "1.5"} {
		ask(t, fail(api.EValue), "MATCH", 1, row(1), how)
		ask(t, fail(api.EValue), "MATCH", 9, row(1), how)
	}
	ask(t, fail(api.EValue), "MATCH", 1, wide)
	ask(t, fail(api.EValue), "MATCH", 1, wide, 0)
	ask(t, fail(api.EValue), "MATCH", "", wide)
}

func TestVlookup(t *testing.T) {
	a := area(3, 4, "'x", 1, "'p", "'y", 2, "'q", "'Y", 3, "'r", 5, 4, "#N/A")
	ask(t, "'y", "VLOOKUP", "'Y", a, 1)
	ask(t, 2, "VLOOKUP", "'Y", a, 2)
	ask(t, "'q", "VLOOKUP", "'y", a, "3.9")
	ask(t, "'q", "VLOOKUP", "'y", a, 3, false)
	ask(t, "'q", "VLOOKUP", "'y", a, 3, "")
	ask(t, "'q", "VLOOKUP", "'y", a, 3, 0)
	ask(t, fail(api.ENA), "VLOOKUP", 5, a, 3)
	ask(t, 4, "VLOOKUP", 5, a, 2)
	ask(t, fail(api.ENA), "VLOOKUP", 2, a, 1)
	ask(t, 7, "VLOOKUP", 7, 7, 1)
	ask(t, fail(api.ENA), "VLOOKUP", 8, 7, 1)
	ask(t, fail(api.ERef), "VLOOKUP", 7, 7, 2)
	ask(t, 2, "VLOOKUP", 1, row(1, 2), 2)
	ask(t, fail(api.ENA), "VLOOKUP", 2, row(1, 2), 2)
	ask(t, empty, "VLOOKUP", 1, row(1, ""), 2)
	// The first of all that is wrong.
	ask(t, fail(api.EDiv), "VLOOKUP", "#DIV/0!", a, "#N/A", "#REF!")
	ask(t, fail(api.EDiv), "VLOOKUP", "#DIV/0!", a, 0, true)
	ask(t, fail(api.EDiv), "VLOOKUP", "#DIV/0!", row("#DIV/0!", 1), 2)
	ask(t, fail(api.EValue), "VLOOKUP", row(1, 2), a, 9, "#REF!")
	ask(t, fail(api.ENA), "VLOOKUP", "'x", a, "#N/A", "#REF!")
	ask(t, fail(api.ENum), "VLOOKUP", "'x", a, "1e18", true)
	ask(t, fail(api.ECycle), "VLOOKUP", "'x", a, 9, "#CYCLE!")
	ask(t, fail(api.ECycle), "VLOOKUP", "'x", a, 0, "#CYCLE!")
	ask(t, fail(api.EValue), "VLOOKUP", "'x", a, 9, "'z")
	ask(t, fail(api.EValue), "VLOOKUP", "'x", a, 9, true)
	ask(t, fail(api.EValue), "VLOOKUP", "'x", a, 1, true)
	ask(t, fail(api.EValue), "VLOOKUP", "'x", a, 1, "-0.5")
	ask(t, fail(api.EValue), "VLOOKUP", "'none", a, 1, 1)
	for _, below := range []any{0, -1, "0.9", "", -9007199254740992} {
		ask(t, fail(api.EValue), "VLOOKUP", "'x", a, below)
		ask(t, fail(api.EValue), "VLOOKUP", "'none", a, below, false)
	}
	for _, beyond := range []any{4, 5, 9007199254740992} {
		ask(t, fail(api.ERef), "VLOOKUP", "'x", a, beyond)
		ask(t, fail(api.ERef), "VLOOKUP", "'none", a, beyond, false)
		ask(t, fail(api.ERef), "VLOOKUP", "", a, beyond)
	}
	ask(t, fail(api.ENA), "VLOOKUP", "'none", a, 3)
}

func TestCountifAndSumif(t *testing.T) {
	a := area(2, 3, 1, "'x", 2, "'X", 1, "#N/A")
	ask(t, 2, "COUNTIF", a, 1)
	ask(t, 2, "COUNTIF", a, "'x")
	ask(t, 0, "COUNTIF", a, "'1")
	ask(t, 0, "COUNTIF", a, 3)
	ask(t, 2, "COUNTIF", a, row("'X"))
	ask(t, 1, "COUNTIF", 1, 1)
	ask(t, 0, "COUNTIF", "#N/A", 1)
	ask(t, 64*512, "COUNTIF", full(64, 512, "'a"), "'A")
	ask(t, fail(api.ENA), "COUNTIF", a, "#N/A")
	ask(t, fail(api.EValue), "COUNTIF", a, row(1, 2))

	ask(t, 2, "SUMIF", a, 1)
	ask(t, 0, "SUMIF", a, "'x")
	ask(t, 0, "SUMIF", a, 3)
	ask(t, 7, "SUMIF", a, "'x", area(2, 3, 1, 3, 8, 4, 16, 32))
	ask(t, 3, "SUMIF", a, "'x", area(2, 3, "#N/A", 3, 8, "#REF!", 16, 32))
	ask(t, 3, "SUMIF", a, "'x", area(2, 3, "#N/A", 3, 8, "'4", 16, 32))
	ask(t, 0, "SUMIF", a, "'x", area(2, 3, 1, true, 8, "", 16, 32))
	ask(t, 5, "SUMIF", 1, 1, 5)
	ask(t, 5, "SUMIF", 1, 1, row(5))
	ask(t, 0, "SUMIF", 1, 2, 5)
	ask(t, 0, "SUMIF", 1, 1, "'5")
	ask(t, 0, "SUMIF", "#N/A", 1)
	for _, other := range []funcs.Arg{area(3, 2, 1, 1, 1, 1, 1, 1), area(2, 2, 1, 1, 1, 1), row(1, 1), column(1, 1, 1), area(6, 1, 1, 1, 1, 1, 1, 1), one(1)} {
		ask(t, fail(api.EValue), "SUMIF", a, 1, other)
		ask(t, fail(api.EValue), "SUMIF", a, 99, other)
		ask(t, fail(api.EValue), "SUMIF", other, 99, a)
		ask(t, fail(api.ENA), "SUMIF", a, "#N/A", other)
	}
	ask(t, fail(api.ENA), "SUMIF", a, "#N/A")
	ask(t, fail(api.ERef), "SUMIF", row("#N/A"), "#REF!", row("#DIV/0!"))
	ask(t, fail(api.EValue), "SUMIF", a, row(1, 2))
	// The sum is made one by one from the left, row by row.
	great, same := num(math.MaxInt64, 0), row(1, 1, 1)
	ask(t, fail(api.ENum), "SUMIF", same, 1, row(great, 1, -1))
	ask(t, great, "SUMIF", same, 1, row(great, -1, 1))
	ask(t, great, "SUMIF", row(1, 2, 1), 1, row(great, 1, 0))
	ask(t, fail(api.ENum), "SUMIF", row(great, great), great)
}

func TestPlaces(t *testing.T) {
	a := area(3, 2, 1, 2, 3, "#N/A", "", "'x")
	a.Col, a.Row = 7, 9
	ask(t, 2, "ROWS", a)
	ask(t, 3, "COLUMNS", a)
	ask(t, 9, "ROW", a)
	ask(t, 7, "COLUMN", a)
	for _, x := range []any{1, "", "'x", "#N/A", true} {
		ask(t, 1, "ROWS", x)
		ask(t, 1, "COLUMNS", x)
		ask(t, fail(api.EValue), "ROW", x)
		ask(t, fail(api.EValue), "COLUMN", x)
		ask(t, 1, "ROWS", row(x))
		ask(t, 3, "ROW", row(x))
		ask(t, 2, "COLUMN", row(x))
	}
	ask(t, 512, "ROWS", full(64, 512, ""))
	ask(t, 64, "COLUMNS", full(64, 512, ""))
	for _, n := range []int{1, 10, 64, 512, 513, math.MaxInt} {
		a.Col, a.Row = n, 1
		ask(t, n, "COLUMN", a)
		ask(t, 1, "ROW", a)
		a.Col, a.Row = 1, n
		ask(t, n, "ROW", a)
	}
}
