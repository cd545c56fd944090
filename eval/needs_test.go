package eval_test

import (
	"fmt"
	"math/rand"
	"strings"
	"testing"

	"quire/api"
	"quire/cells"
	"quire/eval"
)

// P1703: Needs.

// rects is what Needs answers, each as a range is written.
func rects(b api.Book, sheet int, x api.Expr) string {
	var all []string
	for _, r := range eval.Needs(b, sheet, x) {
		from, to := api.Ref{Sheet: b.Sheets[r.Sheet].Name, Col: r.C1, Row: r.R1}, api.Ref{Col: r.C2, Row: r.R2}
		s := cells.Print(from)
		if to.Sheet = from.Sheet; to != from {
			s = cells.PrintRange(from, to)
		}
		all = append(all, s)
	}
	return strings.Join(all, " ")
}

func TestNeeds(t *testing.T) {
	b := wrote(
		"ref := A1", "there := T!A1", "range := T!C4:B3", "twice := A1+A1", "other := ref+B2", "third := B1*other*C3", "none2 := none+D4", "gone := None!A1+E5", "num := 1",
		"self := A2+self+B2", "a := A1+b+C1", "b := A2+a+C2", "bad := #REF!")
	for formula, want := range map[string]string{
		"1": "", `"A1"`: "", "TRUE": "", "#REF!": "", "NA()": "", "num": "", "bad": "", "none": "", "-none%": "",
		"A1": "S!A1", "$B$2": "S!B2", "BL512": "S!BL512", "S!A1": "S!A1", "T!A1": "T!A1", "'a b'!A1": "'a b'!A1",
		"A1:B2": "S!A1:B2", "B2:A1": "S!A1:B2", "A2:B1": "S!A1:B2", "B1:A2": "S!A1:B2", "$B2:A$1": "S!A1:B2", "T!C4:B3": "T!B3:C4", "A1:A1": "S!A1", "BL512:A1": "S!A1:BL512",
		"None!A1": "", "None!A1:B2": "", "s!A1": "", "t!A1:B2": "", "'A B'!A1": "", "None!A1+A2+s!A3": "S!A2",
		"-A1": "S!A1", "A1%": "S!A1", "A1+B1": "S!A1 S!B1", "B1+A1": "S!B1 S!A1", "A1+A1": "S!A1 S!A1", "A1+A1:A1": "S!A1 S!A1", "A1:B2+B2:A1": "S!A1:B2 S!A1:B2",
		"A1+B1*C1": "S!A1 S!B1 S!C1", "(A1+B1)*C1": "S!A1 S!B1 S!C1", "A1*(B1+C1)": "S!A1 S!B1 S!C1", "(A1-B1)*(C1-D1)": "S!A1 S!B1 S!C1 S!D1",
		"SUM(A1,B1:B2,T!C3)": "S!A1 S!B1:B2 T!C3", "SUM(A1,SUM(B1,C1),D1)": "S!A1 S!B1 S!C1 S!D1", "IF(FALSE,A1,B1)": "S!A1 S!B1", "NONE(A1)": "S!A1", "ROWS(A1:B2)": "S!A1:B2",
		"ref": "S!A1", "there": "T!A1", "range": "T!B3:C4", "twice": "S!A1 S!A1", "ROW(range)": "T!B3:C4",
		"other": "S!A1 S!B2", "third": "S!B1 S!A1 S!B2 S!C3", "none2": "S!D4", "gone": "S!E5",
		"D1+ref+E1": "S!D1 S!A1 S!E1", "ref+ref": "S!A1", "ref+A1": "S!A1 S!A1", "A1+ref+A1": "S!A1 S!A1 S!A1", "ref+other": "S!A1 S!B2", "other+ref": "S!A1 S!B2", "ref+third+other": "S!A1 S!B1 S!B2 S!C3", "other+third": "S!A1 S!B2 S!B1 S!C3", "twice+twice": "S!A1 S!A1",
		"Ref": "", "REF+A2": "S!A2", "SUM(none,ref,None!B2,there)": "S!A1 T!A1",
		"self": "S!A2 S!B2", "self+self": "S!A2 S!B2", "a": "S!A1 S!A2 S!C2 S!C1", "b": "S!A2 S!A1 S!C1 S!C2", "b+D1+a": "S!A2 S!A1 S!C1 S!C2 S!D1",
	} {
		is(t, rects(b, 0, tree(formula)), want, "Needs", formula)
	}
}

func TestNeedsSheets(t *testing.T) {
	b := wrote("ref := A1+T!B2", "other := C3+ref")
	for sheet, name := range []string{"S!", "T!", "'a b'!"} {
		is(t, rects(b, sheet, tree("A1")), name+"A1", "Needs", sheet)
		is(t, rects(b, sheet, tree("B2:A1")), name+"A1:B2", "Needs", sheet)
		is(t, rects(b, sheet, tree("ref")), name+"A1 T!B2", "Needs", sheet)
		is(t, rects(b, sheet, tree("other+S!D4+E5")), name+"C3 "+name+"A1 T!B2 S!D4 "+name+"E5", "Needs", sheet)
	}
}

// What cells hold does not count: a formula needs no more by them.
func TestNeedsOfNoCell(t *testing.T) {
	b := wrote("A1: =B1", "B1: =C1", "C1: x")
	is(t, rects(b, 0, tree("A1")), "S!A1", "Needs")
	is(t, rects(b, 0, tree("D1:E2")), "S!D1:E2", "Needs")
}

func TestNeedsOfWrong(t *testing.T) {
	for what, b := range wrongBooks() {
		for _, formula := range []string{"A1", "SUM(A1:B2,T!A1)", "n"} {
			alike(t, eval.Needs(b, 0, tree(formula)), nil, "Needs of a wrong book", what, formula)
		}
	}
	b := wrote("n := A1")
	for _, x := range wrongTrees() {
		alike(t, eval.Needs(b, 0, x), nil, "Needs of a wrong formula", x)
	}
	for _, sheet := range noSheets {
		for _, formula := range []string{"A1", "S!A1", "n", "T!B2:C3"} {
			alike(t, eval.Needs(b, sheet, tree(formula)), nil, "Needs of no sheet", sheet, formula)
		}
	}
}

// Needs answers what the model does, in new memory, and leaves what it is given as it is.
func TestNeedsOfAny(t *testing.T) {
	r := rand.New(rand.NewSource(1703))
	for range 500 {
		b, x := roomy(anyBook(r)), roomy(anyTree(r, 5))
		sheet := r.Intn(len(b.Sheets))
		before := memory(b) + memory(x)
		got, again := eval.Needs(b, sheet, x), eval.Needs(b, sheet, x)
		alike(t, got, modelNeeds(b, sheet, x), "Needs", sheet, x, b)
		for i := range got {
			got[i] = eval.Rect{}
		}
		_ = append(got[:cap(got)], eval.Rect{})
		alike(t, again, modelNeeds(b, sheet, x), "Needs, behind writing into an earlier answer", x)
		is(t, memory(b)+memory(x), before, "Needs changed what it was given")
		if t.Failed() {
			t.FailNow()
		}
	}
}

// Names within names, each used very often, end: each counts once.
func TestNeedsOfManyNames(t *testing.T) {
	var lines []string
	want := ""
	for i := range api.MaxNames - 1 {
		lines = append(lines, fmt.Sprintf("n%02d := A%d+n%02d+n%02d*n%02d", i, i+1, i+1, (i*7)%64, (i*5)%64))
	}
	lines = append(lines, "n63 := A64+n00")
	b := wrote(lines...)
	for i := range api.MaxNames {
		want += fmt.Sprintf(" S!A%d", i+1)
	}
	is(t, rects(b, 0, tree("n00+n00+n63")), want[1:], "Needs of many names")
	is(t, len(eval.Needs(b, 0, tree("n40"))), 64, "Needs of many names, from another one on")
}
