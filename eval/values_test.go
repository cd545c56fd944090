package eval_test

import (
	"fmt"
	"math"
	"math/rand"
	"slices"
	"strings"
	"testing"

	"quire/api"
	"quire/cells"
	"quire/eval"
	"quire/val"
)

// P1702: Value, Values, Cycle.

// worths holds what the cells are worth, by lines `A1: what is shown`, against Value and Values, and the whole book against the model.
func worths(t *testing.T, b api.Book, lines ...string) {
	t.Helper()
	for _, line := range lines {
		s, want, _ := strings.Cut(line, ": ")
		p := at(s)
		is(t, val.Show(eval.Value(b, p.sheet, p.col, p.row)), want, "Value", s, b)
		is(t, val.Show(kept(eval.Values(b), p)), want, "Values", s, b)
	}
	hold(t, b)
}

// kept is what Values tells of a place; an empty value of one of which it tells nothing.
func kept(all [][]api.Result, p place) api.Value {
	for _, x := range all[p.sheet] {
		if x.Col == p.col && x.Row == p.row {
			return x.V
		}
	}
	return empty
}

// cycles holds on which of the cells there is a cycle: of those named alone.
func cycles(t *testing.T, b api.Book, on string) {
	t.Helper()
	var want, got []place
	for _, s := range strings.Fields(on) {
		want = append(want, at(s))
	}
	for _, p := range places(b) {
		if eval.Cycle(b, p.sheet, p.col, p.row) {
			got = append(got, p)
		}
	}
	alike(t, got, want, "on a cycle", b)
	hold(t, b)
}

func TestExamples(t *testing.T) {
	worths(t, wrote("A1: 2", "A2: =A1*3", "A3: =SUM(A1:A2)"), "A1: 2", "A2: 6", "A3: 8")
	worths(t, wrote("A1: =B1", "B1: =A1", "C1: =A1+1", "D1: =IF(FALSE,D1,1)", "E1: =F1"), "A1: #CYCLE!", "B1: #CYCLE!", "C1: #CYCLE!", "D1: #CYCLE!", "E1: 0", "F1: ")
	worths(t, wrote("B1: =B1", "C1: =1/3", "D1: =1/4", "E1: =100*tax", "tax := 0.2"), "B1: #CYCLE!", "C1: #NUM!", "D1: 0.25", "E1: 20")
}

func TestValueOfValues(t *testing.T) {
	b := wrote("T!A1: 1")
	for i, v := range someValues {
		b.Sheets[0].Cells = append(b.Sheets[0].Cells, api.Cell{Col: i + 1, Row: 1, In: api.Input{V: v}, Style: 1})
	}
	for i, v := range someValues {
		is(t, eval.Value(b, 0, i+1, 1), v, "Value of a value")
		is(t, eval.Values(b)[0][i], api.Result{Col: i + 1, Row: 1, V: v}, "Values of a value")
		is(t, eval.Cycle(b, 0, i+1, 1), false, "Cycle of a value")
	}
	is(t, len(eval.Values(b)[0]), len(someValues), "Values of a sheet")
	hold(t, b)
}

// Where there is no cell there is nothing, on a sheet that there is not as well.
func TestValueOfNoCell(t *testing.T) {
	b := wrote("B2: =C3", "T!C3: 7", "A3: =A3")
	edges := []int{math.MinInt, -1, 0, 1, 2, 3, 4, 63, 64, 65, 511, 512, 513, math.MaxInt}
	there := places(b)
	for _, sheet := range append(noSheets, 0, 1, 2) {
		for _, col := range edges {
			for _, row := range edges {
				if !slices.Contains(there, place{sheet, col, row}) {
					is(t, eval.Value(b, sheet, col, row), empty, "Value of no cell", sheet, col, row)
					is(t, eval.Cycle(b, sheet, col, row), false, "Cycle of no cell", sheet, col, row)
				}
			}
		}
	}
}

// What is empty is 0 as the whole of a formula alone; what a formula is worth is not empty.
func TestValueOfEmpty(t *testing.T) {
	b := wrote("A1: =Z9", "B1: =T!A1:A1", "C1: =n", "D1: =IF(TRUE,Z9)", "E1: =INDEX(Y1:Z2,2,1)", "F1: =Z9&\"x\"", "G1: =Z9=\"\"", "H1: =ISBLANK(Z9)", "I1: =ISBLANK(A1)", "J1: =A1=\"\"", "K1: =COUNTBLANK(Y1:Z2)", "L1: =COUNTBLANK(A1:C1)", "M1: =COUNT(A1:C1,Z9)", "N1: =ISBLANK(n)", "O1: =-Z9", "P1: =Z9%", "Q1: =CHOOSE(1,A2)", "R1: =IFERROR(Z9,1)", "S1: =COUNTA(Y9:Z9)", "T1: =\"\"", "n := A9")
	b.Sheets[0].Cells = append(b.Sheets[0].Cells, api.Cell{Col: 1, Row: 2, Style: 1})
	worths(t, b, "A1: 0", "B1: 0", "C1: 0", "D1: 0", "E1: 0", "F1: x", "G1: TRUE", "H1: TRUE", "I1: FALSE", "J1: FALSE", "K1: 4", "L1: 0", "M1: 3", "N1: TRUE", "O1: 0", "P1: 0", "Q1: 0", "R1: 0", "S1: 0", "A2: ")
	is(t, eval.Value(b, 0, 1, 1), num(0), "Value of an empty cell's formula")
	is(t, eval.Value(b, 0, 20, 1), val.Str(""), "Value of a formula of the empty text")
	is(t, eval.Value(b, 0, 1, 2), empty, "Value of a cell that has a style alone")
	is(t, eval.Values(b)[0][20], api.Result{Col: 1, Row: 2}, "Values of a cell that has a style alone")
}

func TestCycle(t *testing.T) {
	cycles(t, wrote("A1: =A1"), "A1")
	cycles(t, wrote("A1: =A1:A1"), "A1")
	cycles(t, wrote("A1: =S!A1", "T!A1: =A2", "T!A2: =S!A1"), "A1")
	cycles(t, wrote("A1: =T!A1", "T!A1: =A1"), "T!A1")
	cycles(t, wrote("A1: =T!A1", "T!A1: =S!A1"), "A1 T!A1")
	cycles(t, wrote("A1: =B1", "B1: =A1"), "A1 B1")
	cycles(t, wrote("A1: =B1", "B1: =C1", "C1: =A1"), "A1 B1 C1")
	cycles(t, wrote("A1: =B1", "B1: =C1", "C1: =B1", "D1: =A1"), "B1 C1")
	cycles(t, wrote("A1: =B1+C1", "B1: =D1", "C1: =D1", "D1: 1"), "")
	cycles(t, wrote("A1: =B1+C1", "B1: =D1", "C1: =D1", "D1: =E1", "E1: =C1"), "C1 D1 E1")
	cycles(t, wrote("A1: =B1", "B1: =A1", "C1: =D1", "D1: =C1", "E1: =A1+C1"), "A1 B1 C1 D1")
	cycles(t, wrote("A1: =B1+D1", "B1: =C1", "C1: =A1", "D1: =E1", "E1: =A1"), "A1 B1 C1 D1 E1")
	cycles(t, wrote("A1: =B1", "B1: =B1", "C1: =A1+C2"), "B1")
	cycles(t, wrote("B2: =SUM(A1:C3)", "A1: 1", "C3: 2"), "B2")
	cycles(t, wrote("B2: =SUM(C3:A1)", "A1: =B2", "C3: =D4", "D4: 1"), "A1 B2")
	cycles(t, wrote("B2: =ROWS(A1:C3)", "A4: =COLUMN(A4)", "A5: =SUM(A1:A4)"), "B2 A4")
	cycles(t, wrote("B2: =SUM(A1:A3,B1,B3,C1:C3)"), "")
	cycles(t, wrote("B2: =SUM(A2:C2)", "B3: =SUM(A2:C2)", "B4: =SUM(B2:B4)"), "B2 B4")
	cycles(t, wrote("D1: =IF(FALSE,D1,1)", "E1: =IF(TRUE,1,E2)", "E2: =IFERROR(1,E1)", "F1: =NONE(F1)", "G1: =1/0+G1"), "D1 E1 F1 G1 E2")
	cycles(t, wrote("A1: =n", "B1: =n", "n := A1"), "A1")
	cycles(t, wrote("A1: =n", "B1: =n", "T!A1: =n", "T!C1: =n", "n := m", "m := IF(TRUE,1,A1)"), "A1 T!A1")
	cycles(t, wrote("A1: =n", "T!A1: =n", "n := S!A1"), "A1")
	cycles(t, wrote("A1: =s!A1", "B1: =None!B1", "C1: =#REF!", "D1: =none"), "")
	cycles(t, wrote("A1: =n", "n := n+m", "m := n"), "")
	cycles(t, wrote("A1: =n", "n := n+A1"), "A1")
	cycles(t, wrote("A1: =B1", "B1: 1", "C1: x"), "")
	cycles(t, wrote("A1: =B2", "B2: =A3", "A3: =Z9"), "")
}

func TestValueOfCycles(t *testing.T) {
	worths(t, wrote("A1: =B1+1", "B1: =IF(FALSE,A1,1)", "C1: =A1+1", "D1: =IFERROR(A1,5)", "E1: =ISERROR(B1)", "F1: =IF(TRUE,3,A1)", "G1: =COUNT(A1:D1)", "H1: =SUM(A1:D1)", "I1: =ROWS(A1:B1)"),
		"A1: #CYCLE!", "B1: #CYCLE!", "C1: #CYCLE!", "D1: 5", "E1: TRUE", "F1: 3", "G1: 1", "H1: #CYCLE!", "I1: 1")
	worths(t, wrote("A1: =n", "B1: =n+1", "C1: =m", "D1: =IFERROR(k,4)", "E1: =IF(TRUE,6,k)", "n := IF(TRUE,2,A1)", "m := IF(TRUE,2,k)", "k := k"),
		"A1: #CYCLE!", "B1: 3", "C1: 2", "D1: 4", "E1: 6")
	worths(t, wrote("A1: =SUM(n)", "B1: =SUM(n)", "A2: 2", "B2: 3", "T!A2: 5", "T!B1: =SUM(n)", "T!C1: =SUM(n,S!B1)", "n := A1:A2"),
		"A1: #CYCLE!", "B1: #CYCLE!", "T!B1: 5", "T!C1: #CYCLE!")
	worths(t, wrote("A1: =NA()+A1", "B1: =NA()", "C1: =B1+A1", "D1: =A1+B1"), "A1: #CYCLE!", "B1: #N/A", "C1: #N/A", "D1: #CYCLE!")
}

// Formulas take one another's values, wherever they stand, also by names, on each sheet that sheet's.
func TestValueOfFormulas(t *testing.T) {
	worths(t, wrote("A1: =B1*2", "B1: =C1*2", "C1: =T!A1", "T!A1: =S!D1+1", "D1: 4"), "A1: 20", "B1: 10", "C1: 5", "T!A1: 5")
	worths(t, wrote("A1: 2", "T!A1: 3", "B1: =n", "T!B1: =n", "'a b'!B1: =n", "C1: =T!B1+n", "n := 10*m", "m := A1+1"), "B1: 30", "T!B1: 40", "'a b'!B1: 10", "C1: 70")
	worths(t, wrote("A1: x", "B1: =A1&1", "C1: =LEN(B1)", "D1: =A1=\"X\"", "E1: =1/0", "F1: =E1+NA()", "G1: =None!A1", "H1: =SUM(A1:C1)", "I1: =SUM(A1:E1)", "J1: =A1:B1", "K1: =none"),
		"B1: x1", "C1: 2", "D1: TRUE", "E1: #DIV/0!", "F1: #DIV/0!", "G1: #REF!", "H1: 2", "I1: #DIV/0!", "J1: #VALUE!", "K1: #NAME?")
	worths(t, wrote("BL512: =A1", "A1: =BK512+1", "BK512: 3"), "BL512: 4", "A1: 4")
}

// row is the places of a long row of cells: number i stands in a sheet, a column and a row by it.
func rowOf(i int) string {
	sheet := []string{"S!", "T!", "'a b'!"}[i%3]
	return sheet + cells.Letters(1+i/3%64) + fmt.Sprint(1+i/3/64)
}

// Long rows of formulas that need each other come out, whichever way they go, and whichever is asked.
func TestValueOfLongRows(t *testing.T) {
	const n = api.MaxCells
	forward, backward, ring := []string{rowOf(0) + ": 1"}, []string{rowOf(n-1) + ": 1"}, []string{rowOf(0) + ": =" + rowOf(n-1)}
	for i := 1; i < n; i++ {
		forward = append(forward, rowOf(i)+": ="+rowOf(i-1)+"+1")
		backward = append(backward, rowOf(n-1-i)+": ="+rowOf(n-i)+"+1")
		ring = append(ring, rowOf(i)+": =-"+rowOf(i-1))
	}
	for what, b := range map[string]api.Book{"forward": wrote(forward...), "backward": wrote(backward...), "ring": wrote(ring...)} {
		all := eval.Values(b)
		for i := range n {
			want := map[string]api.Value{"forward": num(int64(i + 1)), "backward": num(int64(n - i)), "ring": fail(api.ECycle)}[what]
			p := at(rowOf(i))
			is(t, kept(all, p), want, "Values of a long row", what, i)
			if i%333 == 0 || i == n-1 {
				is(t, eval.Value(b, p.sheet, p.col, p.row), want, "Value of a long row", what, i)
				is(t, eval.Cycle(b, p.sheet, p.col, p.row), what == "ring", "Cycle of a long row", what, i)
			}
		}
	}
}

// Each formula needs all that stand ahead of it, or all of all, by names that stand within one another as deep as they may.
func TestValueOfWideRows(t *testing.T) {
	var ahead, all, halves []string
	for i := range api.MaxCells {
		place := cells.Letters(1+i%4) + fmt.Sprint(1+i/4)
		halves = append(halves, place+": =SUM(A1:D250)/2")
		all = append(all, place+": =n00")
		if i%4 > 0 {
			ahead = append(ahead, place+": 1")
		} else if i > 0 {
			ahead = append(ahead, fmt.Sprintf("%s: =COUNT(A1:D%d)", place, i/4))
		}
	}
	b := wrote(append(ahead, "A1: 1")...)
	values := eval.Values(b)
	for i := range 500 {
		want := num(int64(max(1, 4*i)))
		is(t, values[0][4*i].V, want, "Values of all ahead", i)
		if i%100 == 0 || i >= 495 {
			is(t, eval.Value(b, 0, 1, i+1), want, "Value of all ahead", i)
		}
	}
	for i := range api.MaxNames - 1 {
		all = append(all, fmt.Sprintf("n%02d := %sn%02d", i, strings.Repeat("-", api.MaxDepth-1), i+1))
	}
	for _, b := range []api.Book{wrote(append(all, "n63 := SUM(A1:BL512)")...), wrote(halves...)} {
		values := eval.Values(b)
		for i := range api.MaxCells {
			row, col := 1+i/4, 1+i%4
			circular := len(b.Names) > 0 || row <= 250
			is(t, values[0][i].V == fail(api.ECycle), true, "Values of all", i)
			if i%499 == 0 || i == 1000 {
				is(t, eval.Cycle(b, 0, col, row), circular, "Cycle of all", i)
			}
		}
	}
}

func TestValueOfWrong(t *testing.T) {
	for what, b := range wrongBooks() {
		for _, sheet := range []int{0, 1, 2, 3, -1} {
			is(t, eval.Value(b, sheet, 1, 1), fail(api.EValue), "Value of a wrong book", what)
			is(t, eval.Value(b, sheet, 9, 9), fail(api.EValue), "Value of a wrong book", what)
			is(t, eval.Cycle(b, sheet, 1, 1), false, "Cycle of a wrong book", what)
		}
		alike(t, eval.Values(b), nil, "Values of a wrong book", what)
	}
	b := wrote("A1: =A1")
	b.Styles = nil
	is(t, eval.Cycle(b, 0, 1, 1), false, "Cycle of a wrong book")
}

// Values tells of all sheets, those without a cell too.
func TestValuesOfSheets(t *testing.T) {
	for _, b := range []api.Book{wrote(), wrote("T!A1: 1"), wrote("'a b'!C1: =1", "'a b'!B2: x", "A1: 1")} {
		all := eval.Values(b)
		is(t, len(all), 3, "Values", b)
		for i := range all {
			is(t, len(all[i]), len(b.Sheets[i].Cells), "Values of a sheet", i, b)
		}
		hold(t, b)
	}
}

// Any books are worth what the model says.
func TestValuesOfAny(t *testing.T) {
	r := rand.New(rand.NewSource(1702))
	for range 700 {
		hold(t, anyBook(r))
	}
}

// Few cells with all ways of needing one another: each of four formulas needs some of them, or the fifth.
func TestCycleOfAllSmall(t *testing.T) {
	texts := make([]string, 16)
	for needs := range texts {
		texts[needs] = "=E1"
		for i := range 4 {
			if needs>>i&1 == 1 {
				texts[needs] += "+" + cells.Letters(i+1) + "1"
			}
		}
	}
	r := rand.New(rand.NewSource(17021))
	for range 1000 {
		var lines []string
		for i := range 4 {
			lines = append(lines, cells.Letters(i+1)+"1: "+texts[r.Intn(16)&r.Intn(16)])
		}
		hold(t, wrote(lines...))
	}
}

// The books stay as they are, their spare room too, and what was told is new memory.
func TestNothingIsShared(t *testing.T) {
	r := rand.New(rand.NewSource(17022))
	for range 100 {
		b := roomy(anyBook(r))
		before := memory(b)
		first, again := eval.Values(b), eval.Values(b)
		for i := range first {
			for j := range first[i] {
				is(t, first[i][j], again[i][j], "Values, asked again", b)
				first[i][j] = api.Result{}
			}
			_ = append(first[i][:cap(first[i])], api.Result{})
			first[i] = nil
		}
		m := newModel(b)
		for _, p := range m.cells {
			is(t, kept(again, p), m.value(p), "Values, behind writing into an earlier answer")
			eval.Value(b, p.sheet, p.col, p.row)
			eval.Cycle(b, p.sheet, p.col, p.row)
		}
		is(t, memory(b), before, "a book was changed")
	}
}
