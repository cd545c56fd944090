package cells_test

import (
	"math/big"
	"math/rand"
	"strings"
	"testing"

	"quire/api"
	"quire/cells"
)

func TestRight(t *testing.T) {
	for _, sheet := range append([]string{""}, names...) {
		for _, col := range []int{1, 2, 26, 27, 63, 64} {
			for _, row := range []int{1, 2, 511, 512} {
				for _, abs := range []bool{false, true} {
					is(t, cells.Right(dollars(cell(sheet, col, row), abs, !abs)), true, "Right", sheet, col, row)
				}
			}
		}
	}
	for _, r := range notRight() {
		is(t, cells.Right(r), false, "Right", r)
	}
}

// notRight are references each of which is wrong in one of its parts, or in several.
func notRight() (all []api.Ref) {
	for _, n := range []int{0, -1, 65, 66, 512, 1000, 1<<32 + 1, -1 << 32, least, least + 1, greatest} {
		all = append(all, cell("", n, 1), cell("S", n, 1), dollars(cell("", n, 512), true, false), dollars(cell("", n, 512), false, true))
	}
	for _, n := range []int{0, -1, 513, 514, 1000, 1<<32 + 1, -1 << 32, least, least + 1, greatest} {
		all = append(all, cell("", 1, n), cell("S", 64, n), dollars(cell("", 1, n), false, true), dollars(cell("", 1, n), true, false))
	}
	for _, s := range notNames {
		if s != "" {
			all = append(all, cell(s, 1, 1), dollars(cell(s, 64, 512), true, true))
		}
	}
	return append(all, api.Ref{}, cell("S", 0, 0), cell("", 65, 513), cell("'", 0, 0), api.Ref{AbsCol: true, AbsRow: true})
}

// P1001

func TestLetters(t *testing.T) {
	for col, want := range map[int]string{1: "A", 2: "B", 25: "Y", 26: "Z", 27: "AA", 28: "AB", 52: "AZ", 53: "BA", 63: "BK", api.MaxCol: "BL"} {
		is(t, cells.Letters(col), want, "Letters", col)
	}
	for _, col := range []int{0, -1, -26, -27, -64, api.MaxCol + 1, 66, 78, 79, 512, 702, 703, 16384, 1 << 32, 1<<32 + 1, -1<<32 + 1, least, least + 1, greatest - 1, greatest} {
		is(t, cells.Letters(col), "", "Letters", col)
	}
	for col := -100; col <= 20000; col++ {
		want := ""
		if col >= 1 && col <= api.MaxCol {
			want = columns[col-1]
		}
		is(t, cells.Letters(col), want, "Letters", col)
	}
}

// column is what Col answers.
type column struct {
	N  int
	OK bool
}

func col(s string) column {
	n, ok := cells.Col(s)
	return column{n, ok}
}

func TestCol(t *testing.T) {
	for s, want := range map[string]int{"A": 1, "B": 2, "Y": 25, "Z": 26, "AA": 27, "AB": 28, "AZ": 52, "BA": 53, "BK": 63, "BL": 64} {
		is(t, col(s), column{want, true}, "Col", s)
	}
	for _, s := range []string{
		"", "BM", "BN", "BZ", "CA", "CL", "ZZ", "AAA", "AAB", "ABL", "BLA", "BLL", "XFD", "ZZZ", "AAAA",
		"a", "z", "aa", "bl", "Aa", "aA", "Bl", "bL",
		"1", "0", "27", "A1", "1A", "A0", "AA1", "$A", "A$", "$", "$A$1", "A ", " A", "A A", " ", "\tA", "A\n", "A\x00", "\x00", "\x00A",
		"_", "A_", "-A", "A!", "S!A", "'A'", "@", "[", "A@", "A[", "`", "{", "#REF!", "?", "A:B", "A:A",
		"\xff", "A\xff", "\xffA", "\xc3\x84", "\xef\xbc\xa1", "\xce\x91", "A\xcc\x88",
	} {
		is(t, col(s), column{}, "Col", s)
	}
}

// TestColOfManyLetters asks texts whose numbers are no ints, some of which come round to a column.
func TestColOfManyLetters(t *testing.T) {
	for n := 3; n < 300; n++ {
		for _, c := range []string{"A", "B", "L", "Z"} {
			is(t, col(strings.Repeat(c, n)), column{}, "Col", c, n)
		}
		is(t, col("A"+strings.Repeat("Z", n)), column{}, "Col", n)
	}
	is(t, col(strings.Repeat("A", 1<<20)), column{}, "Col of many")
	for n := range int64(70) {
		is(t, col(roundTo(n)), column{}, "Col", roundTo(n))
	}
}

// roundTo is the letters of 2 to the 64 and n together, of which 64 bits keep n alone.
func roundTo(n int64) string {
	one, base := big.NewInt(1), big.NewInt(26)
	left := new(big.Int).Lsh(one, 64)
	left.Add(left, big.NewInt(n))
	s := ""
	for left.Sign() > 0 {
		letter := new(big.Int)
		left.QuoRem(left.Sub(left, one), base, letter)
		s = string(rune('A'+letter.Int64())) + s
	}
	return s
}

func TestColOfAllTexts(t *testing.T) {
	of := numbers()
	for _, s := range columns {
		is(t, col(s), column{of[s], of[s] > 0}, "Col", s)
	}
	for a := range 256 {
		for _, s := range []string{string([]byte{byte(a)}), "A" + string([]byte{byte(a)}), string([]byte{byte(a)}) + "A"} {
			is(t, col(s), column{of[s], of[s] > 0}, "Col", s)
		}
	}
}

// P1004

// shifted is what Shift answers.
type shifted struct {
	R  api.Ref
	OK bool
}

func shift(r api.Ref, dc, dr int) shifted {
	x, ok := cells.Shift(r, dc, dr)
	return shifted{x, ok}
}

func TestShift(t *testing.T) {
	a1, last, mid := cell("", 1, 1), cell("", 64, 512), cell("a b", 10, 20)
	tests := []struct {
		r      api.Ref
		dc, dr int
		want   shifted
	}{
		{dollars(a1, true, false), 1, 1, shifted{dollars(cell("", 1, 2), true, false), true}},
		{dollars(a1, false, true), 1, 1, shifted{dollars(cell("", 2, 1), false, true), true}},
		{dollars(a1, true, true), 1, 1, shifted{dollars(a1, true, true), true}},
		{a1, 1, 1, shifted{cell("", 2, 2), true}},
		{mid, 3, -7, shifted{cell("a b", 13, 13), true}},
		{mid, -9, 492, shifted{cell("a b", 1, 512), true}},
		{mid, 54, -19, shifted{cell("a b", 64, 1), true}},
		{mid, -10, 0, shifted{}},
		{mid, 55, 0, shifted{}},
		{mid, 0, -20, shifted{}},
		{mid, 0, 493, shifted{}},
		{a1, 0, 0, shifted{a1, true}},
		{last, 0, 0, shifted{last, true}},
		{mid, 0, 0, shifted{mid, true}},
		{a1, 63, 511, shifted{last, true}},
		{last, -63, -511, shifted{a1, true}},
		{a1, -1, 0, shifted{}},
		{a1, 0, -1, shifted{}},
		{a1, 64, 0, shifted{}},
		{a1, 0, 512, shifted{}},
		{last, 1, 0, shifted{}},
		{last, 0, 1, shifted{}},
		{last, -64, 0, shifted{}},
		{last, 0, -512, shifted{}},
		{a1, -1, 1, shifted{}},
		{a1, 1, -1, shifted{}},
		{last, 1, -1, shifted{}},
		{last, -1, 1, shifted{}},
	}
	for _, x := range tests {
		is(t, shift(x.r, x.dc, x.dr), x.want, "Shift", x.r, x.dc, x.dr)
	}
}

// TestShiftByAnyInt moves by numbers that, added, would come round.
func TestShiftByAnyInt(t *testing.T) {
	for _, by := range []int{least, least + 1, least + 2, least + 63, least + 64, least + 511, -1 << 32, -513, 513, 1 << 32, greatest - 512, greatest - 511, greatest - 64, greatest - 63, greatest - 1, greatest} {
		for _, r := range []api.Ref{cell("", 1, 1), cell("", 64, 512), cell("S", 30, 300)} {
			is(t, shift(r, by, 0), shifted{}, "Shift", r, by, 0)
			is(t, shift(r, 0, by), shifted{}, "Shift", r, 0, by)
			is(t, shift(r, by, by), shifted{}, "Shift", r, by, by)
			for _, x := range []api.Ref{dollars(r, true, false), dollars(r, true, true)} {
				is(t, shift(x, by, 0), shifted{x, true}, "Shift", x, by, 0)
			}
			for _, x := range []api.Ref{dollars(r, false, true), dollars(r, true, true)} {
				is(t, shift(x, 0, by), shifted{x, true}, "Shift", x, 0, by)
			}
			is(t, shift(dollars(r, true, false), by, by), shifted{}, "Shift", r, by, by)
			is(t, shift(dollars(r, false, true), by, by), shifted{}, "Shift", r, by, by)
			is(t, shift(dollars(r, true, true), by, by), shifted{dollars(r, true, true), true}, "Shift", r, by, by)
		}
	}
}

func TestShiftOfNone(t *testing.T) {
	for _, r := range notRight() {
		for _, by := range []int{0, 1, -1, 2, least, greatest} {
			is(t, shift(r, by, by), shifted{}, "Shift", r, by, by)
			is(t, shift(r, 0, by), shifted{}, "Shift", r, 0, by)
			is(t, shift(r, by, 0), shifted{}, "Shift", r, by, 0)
		}
	}
}

func TestShiftEverywhere(t *testing.T) {
	for from := 1; from <= api.MaxRow; from++ {
		for by := -api.MaxRow - 1; by <= api.MaxRow+1; by++ {
			is(t, shift(cell("S", 7, from), 0, by), moved(cell("S", 7, from+by)), "Shift", from, by)
			if from <= api.MaxCol {
				is(t, shift(cell("S", from, 7), by, 0), moved(cell("S", from+by, 7)), "Shift", from, by)
			}
		}
	}
}

func moved(r api.Ref) shifted {
	if !modelRight(r) {
		return shifted{}
	}
	return shifted{r, true}
}

func TestBox(t *testing.T) {
	box := func(a, b api.Ref) [4]int {
		c1, r1, c2, r2 := cells.Box(a, b)
		return [4]int{c1, r1, c2, r2}
	}
	tests := []struct {
		a, b api.Ref
		want [4]int
	}{
		{cell("", 1, 2), cell("", 3, 4), [4]int{1, 2, 3, 4}},
		{cell("", 1, 4), cell("", 3, 2), [4]int{1, 2, 3, 4}},
		{cell("", 5, 5), cell("", 5, 5), [4]int{5, 5, 5, 5}},
		{cell("", 5, 6), cell("", 5, 2), [4]int{5, 2, 5, 6}},
		{cell("", 9, 6), cell("", 5, 6), [4]int{5, 6, 9, 6}},
		{cell("", 64, 1), cell("", 1, 512), [4]int{1, 1, 64, 512}},
		{cell("S", 2, 7), cell("T", 1, 8), [4]int{1, 7, 2, 8}},
		{dollars(cell("S", 2, 7), true, true), cell("S", 1, 8), [4]int{1, 7, 2, 8}},
		{api.Ref{}, api.Ref{}, [4]int{}},
		{cell("", least, greatest), cell("", greatest, least), [4]int{least, least, greatest, greatest}},
		{cell("", -3, 600), cell("", 70, 0), [4]int{-3, 0, 70, 600}},
	}
	for _, x := range tests {
		is(t, box(x.a, x.b), x.want, "Box", x.a, x.b)
		is(t, box(x.b, x.a), x.want, "Box", x.b, x.a)
	}
}

func TestLess(t *testing.T) {
	rising := []api.Ref{
		cell("", least, least), cell("", greatest, least), cell("", -1, 0), cell("", 0, 0), cell("", 1, 1), cell("", 2, 1), cell("", 64, 1), cell("", 1, 2), cell("", 1, 512), cell("", greatest, greatest),
		cell("A", 9, 9), cell("A", 10, 9), cell("A", 9, 10), cell("AA", 1, 1), cell("B", 1, 1), cell("a", 1, 1), cell("a", 1, 2), cell("a b", 1, 1), cell("a'", 1, 1), cell("ab", 1, 1), cell("b", 1, 1), cell("\x7f", 1, 1), cell("\x80", 1, 1), cell("\xff", 1, 1),
	}
	for i, a := range rising {
		for j, b := range rising {
			for n := range 16 {
				a, b := dollars(a, n&1 > 0, n&2 > 0), dollars(b, n&4 > 0, n&8 > 0)
				is(t, cells.Less(a, b), i < j, "Less", a, b)
			}
		}
	}
}

// P1005

func TestShiftThereAndBack(t *testing.T) {
	r := rand.New(rand.NewSource(1005))
	there := 0
	for range 200000 {
		x := anyRef(r)
		dc, dr := r.Intn(141)-70, r.Intn(1101)-550
		y, ok := cells.Shift(x, dc, dr)
		if !ok {
			continue
		}
		there++
		is(t, cells.Right(y), true, "Right of Shift", x, dc, dr)
		is(t, shift(y, -dc, -dr), shifted{x, true}, "Shift back", x, dc, dr)
	}
	if there < 20000 {
		t.Errorf("only %d could be moved", there)
	}
}

func TestLessIsAnOrder(t *testing.T) {
	var all []api.Ref
	for _, sheet := range []string{"", "A", "a", "a b"} {
		for _, row := range []int{1, 2, 10} {
			for _, col := range []int{1, 2, 10} {
				all = append(all, cell(sheet, col, row), dollars(cell(sheet, col, row), true, false))
			}
		}
	}
	for _, a := range all {
		is(t, cells.Less(a, a), false, "Less", a, a)
		for _, b := range all {
			alike := dollars(a, false, false) == dollars(b, false, false)
			is(t, cells.Less(a, b) != cells.Less(b, a), !alike, "Less either way", a, b)
			for _, c := range all {
				if cells.Less(a, b) && cells.Less(b, c) {
					is(t, cells.Less(a, c), true, "Less", a, b, c)
				}
			}
		}
	}
	r := rand.New(rand.NewSource(1004))
	for range 50000 {
		a, b := anyRef(r), anyRef(r)
		want := a.Sheet < b.Sheet || a.Sheet == b.Sheet && (a.Row < b.Row || a.Row == b.Row && a.Col < b.Col)
		is(t, cells.Less(a, b), want, "Less", a, b)
	}
}
