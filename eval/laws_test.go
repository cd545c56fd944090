package eval_test

import (
	"math/rand"
	"slices"
	"strings"
	"testing"

	"quire/api"
	"quire/book"
	"quire/eval"
	"quire/expr"
	"quire/val"
)

// P1704: the laws.

// What is told is right, of any books and any cells, with what tells the cells right or not.
func TestWhatIsToldIsRight(t *testing.T) {
	r := rand.New(rand.NewSource(1704))
	wrong := []api.Value{{Kind: 9}, {Kind: api.VErr}, {S: "x"}, {Kind: api.VNum, N: api.Dec{C: 10}}}
	for range 1500 {
		b := anyBook(r)
		for _, l := range eval.Values(b) {
			for _, x := range l {
				is(t, val.Right(x.V), true, "Values tells what is right", x, b)
			}
		}
		p := pick(r, places(b)...)
		is(t, val.Right(eval.Value(b, p.sheet, p.col, p.row)), true, "Value tells what is right", p, b)
		seed := r.Intn(1000)
		x, values := anyTree(r, 4), append(wrong, someValues...)
		v := eval.Formula(b, r.Intn(4), x, func(sheet, col, row int) api.Value {
			if n := (seed + sheet + 5*col + 11*row) % 30; n < len(values) {
				return values[n]
			}
			panic("no cell")
		})
		is(t, val.Right(v), true, "Formula tells what is right", x, b)
		if t.Failed() {
			t.FailNow()
		}
	}
}

// needing are the places that hold what the cell needs, by way of others, with the cell itself.
func needing(b api.Book, p place) []place {
	all := []place{p}
	for i := 0; i < len(all); i++ {
		c, _ := book.Get(b, all[i].sheet, all[i].col, all[i].row)
		if !c.In.Formula {
			continue
		}
		for _, r := range modelNeeds(b, all[i].sheet, c.In.F) {
			for _, q := range places(b) {
				if holds(r, q) && !slices.Contains(all, q) {
					all = append(all, q)
				}
			}
		}
	}
	return all
}

// A cell is worth the same, and is as much on a cycle, whatever all cells are that it does not need.
func TestOtherCellsDoNotCount(t *testing.T) {
	r := rand.New(rand.NewSource(17041))
	for range 1500 {
		b := anyBook(r)
		p := pick(r, places(b)...)
		l := needing(b, p)
		changed := book.Clone(b)
		for _, q := range places(b) {
			if !slices.Contains(l, q) {
				c := api.Cell{Col: q.col, Row: q.row, In: api.Input{V: pick(r, someValues...)}}
				if r.Intn(2) == 0 {
					c.In = api.Input{Formula: true, F: anyTree(r, 3)}
				}
				changed = book.Put(changed, q.sheet, c)
			}
		}
		is(t, eval.Value(changed, p.sheet, p.col, p.row), eval.Value(b, p.sheet, p.col, p.row), "Value, other cells changed", p, b, changed)
		is(t, eval.Cycle(changed, p.sheet, p.col, p.row), eval.Cycle(b, p.sheet, p.col, p.row), "Cycle, other cells changed", p, b, changed)
		if t.Failed() {
			t.FailNow()
		}
	}
}

// valuesAlone is a formula without references and names.
func valuesAlone(r *rand.Rand) api.Expr {
	for {
		if x := anyTree(r, 4); len(expr.Ranges(x))+len(expr.Names(x)) == 0 {
			return x
		}
	}
}

// A formula of values alone is worth the same on each sheet of each book, and asks for no cell.
func TestValuesAlone(t *testing.T) {
	r := rand.New(rand.NewSource(17042))
	for range 1500 {
		x, b := valuesAlone(r), anyBook(r)
		want := eval.Formula(book.New(), 0, x, nil)
		for sheet := range b.Sheets {
			is(t, eval.Formula(b, sheet, x, nil), want, "Formula of values alone", sheet, x)
			b = book.Put(b, sheet, api.Cell{Col: 9, Row: 9, In: api.Input{Formula: true, F: x}})
			is(t, eval.Value(b, sheet, 9, 9), want, "Value of values alone", sheet, x)
			is(t, len(eval.Needs(b, sheet, x)), 0, "Needs of values alone", sheet, x)
			is(t, eval.Cycle(b, sheet, 9, 9), false, "Cycle of values alone", sheet, x)
		}
		if t.Failed() {
			t.FailNow()
		}
	}
}

// turned is the book with all its formulas as a way makes them.
func turned(b api.Book, way func(api.Expr) api.Expr) api.Book {
	b = book.Clone(b)
	for _, s := range b.Sheets {
		for i := range s.Cells {
			if c := &s.Cells[i]; c.In.Formula {
				c.In.F = way(c.In.F)
			}
		}
	}
	for i := range b.Names {
		b.Names[i].F = way(b.Names[i].F)
	}
	return b
}

// Another name of a sheet changes no value.
func TestSheetsNamesDoNotCount(t *testing.T) {
	r := rand.New(rand.NewSource(17043))
	for range 600 {
		b := anyBook(r)
		i := r.Intn(len(b.Sheets))
		from, to := b.Sheets[i].Name, pick(r, "other", "it's", "Z")
		other := turned(b, func(x api.Expr) api.Expr { return expr.Rename(x, from, to) })
		other.Sheets[i].Name = to
		alike(t, eval.Values(other), eval.Values(b), "Values, a sheet having another name", b)
		if t.Failed() {
			t.FailNow()
		}
	}
}

// A name in place of a formula changes no value.
func TestNamesInPlaceOfFormulas(t *testing.T) {
	r := rand.New(rand.NewSource(17044))
	for range 600 {
		b := anyBook(r)
		named := book.Clone(b)
		for i, s := range named.Sheets {
			for j, c := range s.Cells {
				if c.In.Formula && r.Intn(2) == 0 && len(named.Names) < api.MaxNames {
					name := "z." + strings.Repeat("a", i) + strings.Repeat("b", j)
					named.Names = append(named.Names, api.Name{Name: name, F: c.In.F})
					s.Cells[j].In.F = api.Expr{Kind: api.XName, Name: name}
				}
			}
		}
		named = ordered(named)
		alike(t, eval.Values(named), eval.Values(b), "Values, with names in place of formulas", b)
		if t.Failed() {
			t.FailNow()
		}
	}
}

// What stands in a cell is what Formula says of it, if the cells' values are those of the book, and it is on no cycle.
func TestValueIsFormula(t *testing.T) {
	r := rand.New(rand.NewSource(17045))
	for range 600 {
		b := anyBook(r)
		all := eval.Values(b)
		for _, p := range places(b) {
			c, _ := book.Get(b, p.sheet, p.col, p.row)
			if !c.In.Formula || eval.Cycle(b, p.sheet, p.col, p.row) {
				continue
			}
			v := eval.Formula(b, p.sheet, c.In.F, func(sheet, col, row int) api.Value { return kept(all, place{sheet, col, row}) })
			if v == empty {
				v = num(0)
			}
			is(t, kept(all, p), v, "Value of a formula", p, b)
		}
		if t.Failed() {
			t.FailNow()
		}
	}
}
