package graph_test

import (
	"fmt"
	"math"
	"math/rand"
	"slices"
	"testing"

	"quire/api"
	"quire/graph"
)

// P1801: New, Formulas, Needs, Needed.

func TestExample(t *testing.T) {
	g := graph.New(wrote("A1: 1", "A2: =A1", "A3: =SUM(A1:A2)"))
	is(t, names(g.Needed(at("A1")[0])), "A2 A3", "Needed")
	is(t, names(g.Dirty(at("A1"))), "A2 A3", "Dirty")
	is(t, names(g.Order(at("A3 A2"))), "A2 A3", "Order")
}

func TestFormulas(t *testing.T) {
	for _, c := range []struct {
		b    api.Book
		want string
	}{
		{wrote(), ""},
		{wrote("A1: 1", "B1: x", "T!A1: TRUE", "n := A1"), ""},
		{wrote("A1: =1"), "A1"},
		{wrote("B2: =A1", "A3: =1", "C1: =1", "A2: =1", "C2: =1", "A1: 2"), "C1 A2 B2 C2 A3"},
		{wrote("'a b'!A1: =1", "T!B1: =1", "C1: =1", "A2: =1", "T!A1: 1", "'a b'!A2: 1", "'a b'!A3: =A1"), "C1 A2 T!B1 'a b'!A1 'a b'!A3"},
		{wrote("BL512: =1", "A512: =1", "BL1: =1"), "BL1 A512 BL512"},
		{wrote("AA1: =1", "Z1: =1", "B10: =1", "B9: =1"), "Z1 AA1 B9 B10"},
	} {
		is(t, names(graph.New(c.b).Formulas()), c.want, "Formulas", c.b)
	}
}

// needs holds what a formula in F6 of S needs, of the formulas that stand there.
func needs(t *testing.T, formula, want string) {
	t.Helper()
	b := wrote("A1: =1", "B1: =1", "A2: =1", "B2: 5", "C3: =1", "A4: x", "BL512: =1", "T!A1: =1", "T!C2: =1", "T!A2: 1", "'a b'!A1: =1", "F6: ="+formula,
		"ref := A1", "there := T!A1", "range := T!C4:A1", "other := ref+C3", "third := B1*other*A2", "gone := None!A1+A2", "num := 1", "value := B2", "self := A2+self+B1", "a := A1+b", "b := A2+a", "bad := #REF!", "home := F6")
	is(t, names(graph.New(b).Needs(at("F6")[0])), want, "Needs", formula)
}

func TestNeeds(t *testing.T) {
	for formula, want := range map[string]string{
		"1": "", `"A1"`: "", "TRUE": "", "#REF!": "", "NA()": "", "num": "", "bad": "", "none": "",
		"A1": "A1", "$B$1": "B1", "S!A1": "A1", "T!A1": "T!A1", "'a b'!A1": "'a b'!A1", "BL512": "BL512",
		"B2": "", "A4": "", "Z9": "", "T!A2": "", "B2+A4+Z9": "", "value": "", "B2+A1+T!A2": "A1",
		"A1:A1": "A1", "A1:B2": "A1 B1 A2", "B2:A1": "A1 B1 A2", "A2:B1": "A1 B1 A2", "A2:B4": "A2", "B2:C3": "C3", "A1:C3": "A1 B1 A2 C3", "D1:E9": "", "B1:B512": "B1", "A1:BL1": "A1 B1", "A2:BL2": "A2", "T!A1:C3": "T!A1 T!C2",
		"A3:BL512": "C3 F6 BL512", "A1:BL512": "A1 B1 A2 C3 F6 BL512",
		"C3+A2+B1+A1": "A1 B1 A2 C3", "'a b'!A1+T!A1+A1": "A1 T!A1 'a b'!A1", "A1+A1+A1:A1+A1:B1": "A1 B1",
		"-A1%": "A1", "SUM(A1,IF(FALSE,T!C2,C3))": "A1 C3 T!C2", "NONE(A2)": "A2",
		"ref": "A1", "there": "T!A1", "range": "T!A1 T!C2", "other": "A1 C3", "third": "A1 B1 A2 C3", "gone": "A2", "self": "B1 A2", "a": "A1 A2", "b+third": "A1 B1 A2 C3", "REF": "",
		"None!A1": "", "s!A1": "", "t!A1:C3+A2": "A2", "'A B'!A1:B2": "",
		"F6": "F6", "F5:F7": "F6", "home": "F6", "SUM(A1,F6)+there": "A1 F6 T!A1",
	} {
		needs(t, formula, want)
	}
}

// What a formula needs is of its own sheet, if none is named, in names too.
func TestNeedsOfSheets(t *testing.T) {
	lines := []string{"n := B1:B2"}
	for _, s := range []string{"S!", "T!", "'a b'!"} {
		lines = append(lines, s+"A1: =B1+n", s+"B1: =T!B1", s+"B2: 1")
	}
	g := graph.New(wrote(lines...))
	for _, s := range []string{"", "T!", "'a b'!"} {
		is(t, names(g.Needs(at(s + "A1")[0])), s+"B1", "Needs", s)
		is(t, names(g.Needs(at(s + "B1")[0])), "T!B1", "Needs", s)
		is(t, names(g.Needed(at(s + "B2")[0])), s+"A1", "Needed", s)
	}
	is(t, names(g.Needed(at("T!B1")[0])), "B1 T!A1 T!B1 'a b'!B1", "Needed")
	is(t, names(g.Needed(at("B1")[0])), "A1", "Needed")
}

// Where no formula stands nothing is needed.
func TestNeedsOfNoFormula(t *testing.T) {
	g := graph.New(wrote("A1: =B1", "B1: =A1", "C1: 1", "T!A1: x", "B2: =A1:C1"))
	for _, sheet := range []int{math.MinInt, -1, 0, 1, 2, 3, math.MaxInt} {
		for _, col := range []int{math.MinInt, -1, 0, 1, 2, 3, 64, 65, math.MaxInt} {
			for _, row := range []int{math.MinInt, -1, 0, 1, 2, 3, 512, 513, math.MaxInt} {
				p := place{Sheet: sheet, Col: col, Row: row}
				if !slices.Contains(g.Formulas(), p) {
					alike(t, g.Needs(p), nil, "Needs of no formula", p)
				}
			}
		}
	}
	is(t, names(g.Needs(at("B2")[0])), "A1 B1", "Needs")
}

func TestNeeded(t *testing.T) {
	g := graph.New(wrote("A1: 1", "A2: =A1", "B1: =A1+A2+Z9", "B2: =SUM(A1:A3)", "C1: =n", "C2: =m", "C3: =B9", "T!A1: =S!A1", "T!B1: =A1", "T!C1: =n", "'a b'!A1: =T!A1:C1", "D1: =D1", "E1: =None!A1+s!A1", "F1: =k", "F2: =E9:G9", "n := A1", "m := n+T!B1", "k := none"))
	for p, want := range map[string]string{
		"A1": "B1 C1 A2 B2 C2 T!A1", "A2": "B1 B2", "A3": "B2", "A4": "", "B1": "", "Z9": "B1", "B9": "C3", "Z8": "", "C9": "", "D9": "", "E9": "F2", "F9": "F2", "G9": "F2", "H9": "", "F8": "", "F10": "",
		"T!A1": "T!B1 T!C1 'a b'!A1", "T!B1": "C2 'a b'!A1", "T!C1": "'a b'!A1", "T!D1": "", "'a b'!A1": "",
		"D1": "D1", "E1": "", "BL512": "",
	} {
		is(t, names(g.Needed(at(p)[0])), want, "Needed", p)
	}
}

// All cells of all sheets are needed; nothing beyond them.
func TestNeededBeyondTheSheets(t *testing.T) {
	g := graph.New(wrote("A1: =SUM(A1:BL512)", "B1: =SUM(T!A1:BL512,'a b'!BL512:A1)", "T!A1: =SUM(S!BL512:A1)"))
	edges := []int{math.MinInt, -1, 0, 1, 2, 63, 64, 65, 511, 512, 513, math.MaxInt}
	for _, sheet := range []int{math.MinInt, -1, 0, 1, 2, 3, 16, math.MaxInt} {
		for _, col := range edges {
			for _, row := range edges {
				want := map[int]string{0: "A1 T!A1", 1: "B1", 2: "B1"}[sheet]
				if col < 1 || col > 64 || row < 1 || row > 512 {
					want = ""
				}
				is(t, names(g.Needed(place{Sheet: sheet, Col: col, Row: row})), want, "Needed", sheet, col, row)
			}
		}
	}
}

// Of a book that is not right it is the graph of one without cells.
func TestNewOfWrong(t *testing.T) {
	for what, b := range wrongBooks() {
		g := graph.New(b)
		is(t, g != nil, true, "New of a wrong book", what)
		alike(t, g.Formulas(), nil, "Formulas of a wrong book", what)
		alike(t, g.Cycles(), nil, "Cycles of a wrong book", what)
		alike(t, g.Dirty(somePlaces), nil, "Dirty of a wrong book", what)
		alike(t, g.Order(somePlaces), nil, "Order of a wrong book", what)
		for _, p := range somePlaces {
			alike(t, g.Needs(p), nil, "Needs of a wrong book", what)
			alike(t, g.Needed(p), nil, "Needed of a wrong book", what)
		}
	}
}

func TestNil(t *testing.T) {
	var g *graph.Graph
	alike(t, g.Formulas(), nil, "Formulas of nil")
	alike(t, g.Cycles(), nil, "Cycles of nil")
	for _, l := range [][]place{nil, {}, at("A1"), at("A1 A1 B2"), somePlaces} {
		alike(t, g.Dirty(l), nil, "Dirty of nil")
		alike(t, g.Order(l), nil, "Order of nil")
	}
	for _, p := range somePlaces {
		alike(t, g.Needs(p), nil, "Needs of nil")
		alike(t, g.Needed(p), nil, "Needed of nil")
	}
}

// Any books' graphs are what the model says.
func TestGraphsOfAny(t *testing.T) {
	r := rand.New(rand.NewSource(1801))
	for range 400 {
		hold(t, r, anyBook(r))
	}
}

// asked is all that a graph tells, each list of it.
func asked(g *graph.Graph, l []place) [][]place {
	all := [][]place{g.Formulas(), g.Cycles(), g.Dirty(l), g.Order(l)}
	for _, p := range l {
		all = append(all, g.Needs(p), g.Needed(p))
	}
	return all
}

// What is handed in stays as it is, its spare room too, and a graph hangs neither on it, behind New, nor on what is written into answers, nor on another graph.
func TestNothingIsShared(t *testing.T) {
	r := rand.New(rand.NewSource(18011))
	for range 60 {
		b, l := roomy(anyBook(r)), roomy(anyPlaces(r))
		before := memory(b) + memory(l)
		g, other := graph.New(b), graph.New(b)
		want := fmt.Sprint(asked(g, l))
		for range 2 {
			for _, list := range asked(g, l) {
				for i := range list {
					list[i] = place{Sheet: 1, Col: 2, Row: 3}
				}
				_ = append(list[:cap(list)], place{})
				clear(list[:cap(list)])
			}
			is(t, fmt.Sprint(asked(g, l)), want, "a graph, behind writing into its answers", b)
		}
		is(t, memory(b)+memory(l), before, "a book or places were changed")
		for i := range b.Sheets {
			for j := range b.Sheets[i].Cells {
				b.Sheets[i].Cells[j] = api.Cell{Col: 4, Row: 4, In: api.Input{Formula: true, F: tree("A1")}}
			}
		}
		for i := range b.Names {
			b.Names[i].F = tree("B2")
		}
		is(t, fmt.Sprint(asked(g, l)), want, "a graph, behind writing into its book")
		is(t, fmt.Sprint(asked(other, l)), want, "another graph of the same book")
		if t.Failed() {
			t.FailNow()
		}
	}
}
