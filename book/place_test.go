package book_test

import (
	"math"
	"math/rand"
	"testing"

	"quire/api"
	"quire/book"
)

// places are numbers of columns and rows, those too that are none.
var places = []int{math.MinInt, -1, 0, 1, 2, 3, 63, 64, 65, 511, 512, 513, math.MaxInt}

// P1503

func TestSheet(t *testing.T) {
	b := rich()
	for i, name := range []string{"Sheet1", "b c", "S3", "it's"} {
		is(t, book.Sheet(b, name), i, "Sheet", name)
	}
	for _, name := range []string{"", "sheet1", "SHEET1", "B c", "s3", "Sheet", "Sheet1 ", " Sheet1", "'b c'", "it''s", "tax", "0"} {
		is(t, book.Sheet(b, name), -1, "Sheet", name)
	}
	is(t, book.Sheet(api.Book{}, ""), -1, "Sheet")
	is(t, book.Sheet(api.Book{Sheets: []api.Sheet{{Name: "A"}, {Name: "a"}, {Name: ""}, {Name: "a"}}}, "a"), 1, "Sheet")
	is(t, book.Sheet(api.Book{Sheets: []api.Sheet{{Name: "A"}, {Name: ""}}}, ""), 1, "Sheet")
}

// got asks Get, which must leave the book as it was and answer new memory.
func got(t *testing.T, b api.Book, sheet, col, row int, want api.Cell, there bool) {
	t.Helper()
	c, ok := book.Get(b, sheet, col, row)
	is(t, ok, there, "Get", sheet, col, row)
	alike(t, c, want, "Get", sheet, col, row)
	apart(t, "Get", c, b)
}

func TestGet(t *testing.T) {
	b := roomy(rich())
	at(&b, 2, 3).In = formula("S3!A1&(1+2)")
	was := memory(b)
	for sheet := -1; sheet <= len(b.Sheets); sheet++ {
		for _, col := range places {
			for _, row := range places {
				want, there := cell(col, row, api.Input{}), false
				if sheet >= 0 && sheet < len(b.Sheets) {
					for _, c := range b.Sheets[sheet].Cells {
						if c.Col == col && c.Row == row {
							want, there = c, true
						}
					}
				}
				got(t, b, sheet, col, row, want, there)
			}
		}
	}
	is(t, memory(b) == was, true, "Get left the book as it was")
}

func TestGetNoSheet(t *testing.T) {
	for _, b := range append(odd(), rich(), book.New()) {
		for _, sheet := range []int{math.MinInt, -1, len(b.Sheets), len(b.Sheets) + 1, math.MaxInt} {
			got(t, b, sheet, 1, 1, cell(1, 1, api.Input{}), false)
			got(t, b, sheet, -5, math.MaxInt, cell(-5, math.MaxInt, api.Input{}), false)
		}
	}
}

// TestGetFirst asks that the first cell at a place counts, in books too whose cells do not rise, and at places that are none.
func TestGetFirst(t *testing.T) {
	b := api.Book{Sheets: []api.Sheet{{Name: "a"}, {Name: "b", Cells: []api.Cell{
		cell(2, 2, value(num(1, 0))),
		cell(1, 1, value(num(2, 0))),
		cell(1, 2, value(num(3, 0))),
		cell(2, 2, value(num(4, 0))),
		cell(2, 1, api.Input{}),
		cell(1, 1, value(num(5, 0))),
		cell(2, 1, value(num(6, 0))),
		cell(-7, 0, value(num(7, 0))),
		cell(0, -7, value(num(8, 0))),
		cell(0, -7, value(num(9, 0))),
	}}}}
	for col := -8; col < 4; col++ {
		for row := -8; row < 4; row++ {
			want, there := cell(col, row, api.Input{}), false
			for _, c := range b.Sheets[1].Cells {
				if c.Col == col && c.Row == row && !there {
					want, there = c, true
				}
			}
			got(t, b, 1, col, row, want, there)
			got(t, b, 0, col, row, cell(col, row, api.Input{}), false)
		}
	}
}

// puts asks Put against the model; the book and the cell must stay as they were, and what comes is new memory.
func puts(t *testing.T, b api.Book, sheet int, c api.Cell) api.Book {
	t.Helper()
	was, wasCell := memory(b), memory(c)
	want := plain(b).(api.Book)
	if sheet >= 0 && sheet < len(want.Sheets) {
		want.Sheets[sheet].Cells = modelPut(want.Sheets[sheet].Cells, c)
	}
	made := book.Put(b, sheet, c)
	alike(t, made, want, "Put", sheet, c)
	apart(t, "Put", made, b, c)
	is(t, memory(b) == was && memory(c) == wasCell, true, "Put left what was handed in as it was", sheet, c)
	return made
}

func TestPut(t *testing.T) {
	for _, b := range []api.Book{rich(), roomy(rich()), book.New(), {Sheets: []api.Sheet{{}}}} {
		for sheet := range b.Sheets {
			for _, col := range places {
				for _, row := range places {
					puts(t, b, sheet, cell(col, row, value(num(7, 0))))
					puts(t, b, sheet, cell(col, row, api.Input{}))
					puts(t, b, sheet, styled(col, row, 1))
				}
			}
		}
		stop(t)
	}
}

// TestPutSteps asks places one by one: ahead of, between, behind and in the stead of cells.
func TestPutSteps(t *testing.T) {
	b := book.New()
	want := func(list ...api.Cell) {
		t.Helper()
		alike(t, b, api.Book{Sheets: []api.Sheet{{Name: "Sheet1", Cells: list}}, Styles: []string{"General"}}, "Put")
	}
	one, two, three, four := cell(2, 2, value(num(1, 0))), cell(1, 2, value(text(""))), cell(3, 2, formula("-A1")), cell(64, 1, value(truth(false)))
	b = book.Put(b, 0, one)
	want(one)
	b = book.Put(b, 0, two)
	want(two, one)
	b = book.Put(b, 0, three)
	want(two, one, three)
	b = book.Put(b, 0, four)
	want(four, two, one, three)
	other := api.Cell{Col: 2, Row: 2, In: formula("A1+1"), Style: 5}
	b = book.Put(b, 0, other)
	want(four, two, other, three)
	b = book.Put(b, 0, cell(2, 2, api.Input{}))
	want(four, two, three)
	b = book.Put(b, 0, cell(2, 2, api.Input{}))
	want(four, two, three)
	b = book.Put(b, 0, cell(64, 1, api.Input{}))
	want(two, three)
	b = book.Put(b, 0, cell(3, 2, api.Input{F: api.Expr{Kids: []api.Expr{}}}))
	want(two)
	b = book.Put(b, 0, styled(1, 2, 3))
	want(styled(1, 2, 3))
	b = book.Put(b, 0, cell(1, 2, api.Input{}))
	want()
}

func TestPutNoSheet(t *testing.T) {
	for i, b := range append(odd(), rich(), roomy(rich()), book.New()) {
		for _, sheet := range []int{math.MinInt, -1, len(b.Sheets), len(b.Sheets) + 1, math.MaxInt} {
			made := puts(t, b, sheet, cell(1, 1, value(num(7, 0))))
			same(t, made, b, true, i, sheet)
			puts(t, b, sheet, cell(1, 1, api.Input{}))
		}
	}
}

// TestPutOdd asks that cells which are not right are put as they are, since Put refuses none.
func TestPutOdd(t *testing.T) {
	for name, in := range wrongInputs() {
		c := cell(2, 1, in)
		c.Style = -3
		b := puts(t, rich(), 2, c)
		got(t, b, 2, 2, 1, c, true)
		is(t, book.Right(b), api.ErrArg, "Right", name)
	}
}

// TestPutFree asks that Put ends, answers the same each time, and changes nothing that was handed in, where what it answers is free.
func TestPutFree(t *testing.T) {
	b := roomy(rich())
	for i, list := 0, b.Sheets[1].Cells; i < len(list)/2; i++ {
		list[i], list[len(list)-1-i] = list[len(list)-1-i], list[i]
	}
	was := memory(b)
	for _, col := range places {
		for _, row := range places {
			for _, in := range []api.Input{{}, formula("A1%")} {
				c := cell(col, row, in)
				made := book.Put(b, 1, c)
				same(t, made, book.Put(b, 1, c), true, col, row)
				apart(t, "Put", made, b, c)
			}
		}
	}
	is(t, memory(b) == was, true, "Put left the book as it was")
}

// P1504

func TestFind(t *testing.T) {
	b := rich()
	for i, name := range []string{"Tax", "rate", "tax", "x", "x.y", "z_1"} {
		is(t, book.Find(b, name), i, "Find", name)
	}
	for _, name := range []string{"", "TAX", "Rate", "X", "x.", "x.y ", "Sheet1", "General", "A1"} {
		is(t, book.Find(b, name), -1, "Find", name)
	}
	is(t, book.Find(api.Book{}, ""), -1, "Find")
	is(t, book.Find(api.Book{Names: []api.Name{{Name: "b"}, {Name: "a"}, {Name: "A"}, {Name: "a"}}}, "a"), 1, "Find")
	for i, n := range full().Names {
		is(t, book.Find(full(), n.Name), i, "Find", n.Name)
	}
}

func TestStyle(t *testing.T) {
	b := rich()
	for i, code := range []string{"General", "0.00", "0%", `"x"0;(0)`} {
		is(t, book.Style(b, code), i, "Style", code)
	}
	for _, code := range []string{"", "general", "0", "0.0", "0.00 ", `"X"0;(0)`, "x"} {
		is(t, book.Style(b, code), -1, "Style", code)
	}
	is(t, book.Style(api.Book{}, "General"), -1, "Style")
	is(t, book.Style(api.Book{Styles: []string{"0", "x", "", "x"}}, "x"), 1, "Style")
	is(t, book.Style(api.Book{Styles: []string{"0", "x", "", "x"}}, ""), 2, "Style")
}

// P1506

// TestPutGet asks that a right book is right with a right cell in it, if there is room, and that Get tells this cell and all others as they were.
func TestPutGet(t *testing.T) {
	r := rand.New(rand.NewSource(3))
	for range 4000 {
		b := anyBook(r)
		sheet, c := r.Intn(len(b.Sheets)), anyCell(r, len(b.Styles))
		if r.Intn(4) == 0 {
			c.In, c.Style = api.Input{}, 0
		}
		made := puts(t, b, sheet, c)
		is(t, book.Right(made), api.OK, "Right", b, c)
		got(t, made, sheet, c.Col, c.Row, c, !modelEmpty(c))
		for i, s := range b.Sheets {
			for _, one := range s.Cells {
				if i != sheet || one.Col != c.Col || one.Row != c.Row {
					got(t, made, i, one.Col, one.Row, one, true)
				}
			}
		}
		stop(t)
	}
}

func TestPutRoom(t *testing.T) {
	b := full()
	more := cell(64, 512, value(num(1, 0)))
	is(t, book.Right(book.Put(b, 0, more)), api.ErrBig, "Right without room")
	instead := at(&b, 3, 3)
	is(t, book.Right(book.Put(b, 3, cell(instead.Col, instead.Row, value(text("a"))))), api.OK, "Right with a cell in the stead of one")
	less := book.Put(b, 3, cell(instead.Col, instead.Row, api.Input{}))
	is(t, book.Count(less), api.MaxCells-1, "Count")
	is(t, book.Right(book.Put(less, 0, more)), api.OK, "Right with room")
}
