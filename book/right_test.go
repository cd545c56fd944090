package book_test

import (
	"fmt"
	"math"
	"math/rand"
	"slices"
	"strings"
	"testing"

	"quire/api"
	"quire/book"
)

// right asks that Right answers just that of b, and leaves it as it was.
func right(t *testing.T, b api.Book, want api.Errno, of ...any) {
	t.Helper()
	was := memory(b)
	is(t, book.Right(b), want, "Right", of...)
	is(t, modelRight(b), want, "the model's Right", of...)
	is(t, memory(b) == was, true, "Right left the book as it was", of...)
}

// fault is one thing that is wrong, which is done to a book that is at least as rich as rich().
type fault struct {
	name string
	want api.Errno
	do   func(b *api.Book)
}

// at is the cell with that number in the sheet with that number.
func at(b *api.Book, sheet, i int) *api.Cell { return &b.Sheets[sheet].Cells[i] }

// tooLong is a formula of which each node is right, and that is written with one byte more than may be.
func tooLong() api.Expr {
	x := tree("CONCAT(" + strings.TrimSuffix(strings.Repeat(`"a",`, 3), ",") + ")")
	x.Kids[0].V.S = strings.Repeat("a", 255)
	x.Kids[1].V.S = strings.Repeat("a", 242)
	x.Kids[2].V.S = ""
	return x
}

// wrongInputs are those that are neither a right value alone nor a right formula alone.
func wrongInputs() map[string]api.Input {
	deep := tree("1")
	for range api.MaxDepth {
		deep = api.Expr{Kind: api.XNeg, Kids: []api.Expr{deep}}
	}
	return map[string]api.Input{
		"both":                         {Formula: true, V: num(1, 0), F: tree("1")},
		"both, as a value":             {V: num(1, 0), F: tree("1")},
		"a formula, as a value":        {F: tree("A1+1")},
		"a value, as a formula":        {Formula: true, V: num(1, 0)},
		"no formula, as one":           {Formula: true},
		"a value beside an op":         {V: num(1, 0), F: api.Expr{Op: 1}},
		"a value beside a kid":         {V: num(1, 0), F: api.Expr{Kids: []api.Expr{{}}}},
		"a value beside a reference":   {V: num(1, 0), F: api.Expr{To: api.Ref{AbsRow: true}}},
		"a formula beside a B":         {Formula: true, V: api.Value{B: true}, F: tree("1")},
		"a number with a nought":       value(num(10, 0)),
		"a number with a big exponent": value(num(1, 19)),
		"nothing with a text":          value(api.Value{S: "a"}),
		"a long text":                  value(text(strings.Repeat("a", 256))),
		"a text that XML has not":      value(text("\x00")),
		"a text that is no UTF-8":      value(text("\xff")),
		"an error of no code":          value(wrong(8)),
		"an error of code 0":           value(wrong(0)),
		"a kind that is none":          value(api.Value{Kind: 5}),
		"a node of no kind":            with(api.Expr{Kind: 12}),
		"a number below 0":             with(api.Expr{Kind: api.XNum, V: num(-1, 0)}),
		"a reference to no cell":       with(api.Expr{Kind: api.XRef}),
		"a node with too much":         with(api.Expr{Kind: api.XBad, Name: "a"}),
		"wrong deep within":            with(api.Expr{Kind: api.XNeg, Kids: []api.Expr{{Kind: api.XPct}}}),
		"too deep":                     with(deep),
		"written too long":             with(tooLong()),
	}
}

// faults are all that the document names, each at an early and a late place.
func faults() []fault {
	var all []fault
	add := func(want api.Errno, name string, do func(*api.Book)) { all = append(all, fault{name, want, do}) }
	add(api.ErrBig, "no sheet", func(b *api.Book) { b.Sheets = nil })
	add(api.ErrBig, "too many sheets", func(b *api.Book) {
		for i := len(b.Sheets); i <= api.MaxSheets; i++ {
			b.Sheets = append(b.Sheets, api.Sheet{Name: fmt.Sprint("more", i)})
		}
	})
	add(api.ErrBig, "too many cells in all", func(b *api.Book) {
		for i := book.Count(*b); i <= api.MaxCells; i++ {
			s := &b.Sheets[i%2]
			s.Cells = append(s.Cells, cell(1, 1, value(num(1, 0))))
		}
	})
	add(api.ErrBig, "too many names", func(b *api.Book) {
		for i := len(b.Names); i <= api.MaxNames; i++ {
			b.Names = append(b.Names, api.Name{Name: fmt.Sprintf("zz%02d", i), F: tree("1")})
		}
	})
	add(api.ErrBig, "too many styles", func(b *api.Book) {
		for i := len(b.Styles); i <= api.MaxStyles; i++ {
			b.Styles = append(b.Styles, fmt.Sprintf(`0"more%d"`, i))
		}
	})
	for _, i := range []int{0, 3} {
		for _, name := range []string{"", "a:b", "'a", "a'", "a\\b", strings.Repeat("a", 32), "ñ", "a\x7f"} {
			add(api.ErrName, fmt.Sprintf("a sheet's name %q %d", name, i), func(b *api.Book) { b.Sheets[i].Name = name })
		}
		for _, name := range []string{"", "A1", "TRUE", "FALSE", "a b", "1a", "$a", "a!", "ñ", "ZZZ1"} {
			add(api.ErrName, fmt.Sprintf("a name %q %d", name, i), func(b *api.Book) { b.Names[i].Name = name })
		}
	}
	for _, two := range [][2]int{{0, 1}, {1, 0}, {3, 2}, {0, 3}} {
		i, j := two[0], two[1]
		add(api.ErrTwice, fmt.Sprint("a sheet twice ", two), func(b *api.Book) { b.Sheets[i].Name = b.Sheets[j].Name })
		add(api.ErrTwice, fmt.Sprint("a sheet twice but for the case ", two), func(b *api.Book) {
			b.Sheets[i].Name = strings.ToUpper(b.Sheets[j].Name)
			b.Sheets[j].Name = strings.ToLower(b.Sheets[j].Name)
		})
		add(api.ErrTwice, fmt.Sprint("a name twice ", two), func(b *api.Book) { b.Names[i].Name = b.Names[j].Name })
		add(api.ErrTwice, fmt.Sprint("a style twice ", two), func(b *api.Book) { b.Styles[i] = b.Styles[j] })
	}
	return append(all, arguments()...)
}

// arguments are all faults that are told last.
func arguments() []fault {
	var all []fault
	add := func(name string, do func(*api.Book)) { all = append(all, fault{name, api.ErrArg, do}) }
	for _, where := range [][2]int{{0, 0}, {0, 6}, {3, 0}, {3, 6}, {1, 3}} {
		s, i := where[0], where[1]
		set := func(name string, do func(*api.Cell)) {
			add(fmt.Sprint(name, " ", where), func(b *api.Book) { do(at(b, s, i)) })
		}
		for _, n := range []int{math.MinInt, -1, 0, 65, math.MaxInt} {
			set(fmt.Sprint("column ", n), func(c *api.Cell) { c.Col = n })
		}
		for _, n := range []int{math.MinInt, -1, 0, 513, math.MaxInt} {
			set(fmt.Sprint("row ", n), func(c *api.Cell) { c.Row = n })
		}
		for _, n := range []int{math.MinInt, -1, 64, math.MaxInt} {
			set(fmt.Sprint("style ", n), func(c *api.Cell) { c.Style = n })
		}
		set("empty", func(c *api.Cell) { c.In, c.Style = api.Input{}, 0 })
		set("empty, with a list", func(c *api.Cell) { c.In, c.Style = with(api.Expr{Kids: []api.Expr{}}), 0; c.In.Formula = false })
		for name, in := range wrongInputs() {
			set(name, func(c *api.Cell) { c.In = in })
		}
	}
	for _, where := range [][2]int{{0, 0}, {0, 5}, {3, 0}, {3, 5}, {2, 3}} {
		s, i := where[0], where[1]
		swap := func(name string, do func(a, b *api.Cell)) {
			add(fmt.Sprint(name, " ", where), func(b *api.Book) { do(at(b, s, i), at(b, s, i+1)) })
		}
		swap("cells in a wrong order", func(a, b *api.Cell) { *a, *b = *b, *a })
		swap("a cell twice", func(a, b *api.Cell) { *a = *b })
		swap("a place twice", func(a, b *api.Cell) { a.Col, a.Row = b.Col, b.Row })
	}
	for _, s := range []int{0, 3} {
		add(fmt.Sprint("rows that fall, columns that rise ", s), func(b *api.Book) { at(b, s, 2).Row, at(b, s, 2).Col = 3, 1 })
		add(fmt.Sprint("columns that fall in a row ", s), func(b *api.Book) { at(b, s, 3).Col = 64; at(b, s, 4).Col = 63 })
	}
	for _, i := range []int{0, 4} {
		for name, in := range wrongInputs() {
			if in.V == (api.Value{}) && in.Formula {
				add(fmt.Sprint("a name's formula: ", name, " ", i), func(b *api.Book) { b.Names[i].F = in.F })
			}
		}
		add(fmt.Sprint("a name without a formula ", i), func(b *api.Book) { b.Names[i].F = api.Expr{} })
		add(fmt.Sprint("names in a wrong order ", i), func(b *api.Book) { b.Names[i], b.Names[i+1] = b.Names[i+1], b.Names[i] })
	}
	add("no styles", func(b *api.Book) { b.Styles = nil })
	add("General is not first", func(b *api.Book) { b.Styles[0], b.Styles[1] = b.Styles[1], b.Styles[0] })
	add("General is not there", func(b *api.Book) { b.Styles[0] = "0" })
	for _, i := range []int{1, 2, 3} {
		for _, code := range []string{"x", "general", "0#", "\x01", strings.Repeat(" ", 65), "0%%%%%"} {
			add(fmt.Sprintf("no code %q %d", code, i), func(b *api.Book) { b.Styles[i] = code })
		}
	}
	return all
}

// P1501

func TestNew(t *testing.T) {
	want := api.Book{Sheets: []api.Sheet{{Name: "Sheet1"}}, Styles: []string{"General"}}
	alike(t, book.New(), want, "New")
	right(t, book.New(), api.OK)
	apart(t, "New", book.New(), book.New())
	b := book.New()
	b.Sheets[0].Name, b.Styles[0] = "x", "0"
	alike(t, book.New(), want, "New")
}

func TestRight(t *testing.T) {
	right(t, api.Book{}, api.ErrBig)
	right(t, rich(), api.OK)
	right(t, roomy(rich()), api.OK)
	right(t, api.Book{Sheets: []api.Sheet{{Name: "a"}}}, api.ErrArg)
	right(t, api.Book{Sheets: []api.Sheet{{Name: "a"}}, Styles: []string{"General"}}, api.OK)
	right(t, api.Book{Sheets: []api.Sheet{{}}}, api.ErrName)
	b := rich()
	at(&b, 0, 0).In.F.Kids = []api.Expr{}
	right(t, b, api.OK, "a list without an element is as nil")
	b = rich()
	b.Names[0].Name, b.Names[2].Name = "TAX", "tax"
	right(t, b, api.OK, "names may differ in case alone")
	b = rich()
	b.Sheets[0].Name = "tax"
	right(t, b, api.OK, "a sheet may be named as a name")
	b = rich()
	for i := range b.Styles {
		at(&b, 0, 0).Style = i
		right(t, b, api.OK, "style", i)
	}
	at(&b, 0, 0).Style = len(b.Styles)
	right(t, b, api.ErrArg, "style", len(b.Styles))
	b = rich()
	b.Styles[1] = ""
	right(t, b, api.OK, "the empty code is one")
}

// TestRightOdd asks books of any kind, with trees that are very deep.
func TestRightOdd(t *testing.T) {
	for i, b := range odd() {
		right(t, b, []api.Errno{api.ErrBig, api.ErrName, api.ErrName, api.ErrName, api.ErrBig, api.ErrName, api.ErrTwice}[i], i)
		b.Sheets, b.Styles = append([]api.Sheet{{Name: "one"}}, b.Sheets...), []string{"General"}
		for j := range b.Sheets {
			b.Sheets[j].Name = fmt.Sprint("S", j)
		}
		for j := range b.Names {
			b.Names[j].Name = fmt.Sprint("n_", j)
		}
		want := api.ErrArg
		if i == 0 {
			want = api.OK
		}
		right(t, b, want, i, "with right names")
	}
}

func TestRightPlaces(t *testing.T) {
	for _, col := range []int{math.MinInt, -1, 0, 1, 2, 63, 64, 65, math.MaxInt} {
		for _, row := range []int{math.MinInt, -1, 0, 1, 2, 511, 512, 513, math.MaxInt} {
			want := api.ErrArg
			if col >= 1 && col <= 64 && row >= 1 && row <= 512 {
				want = api.OK
			}
			b := book.New()
			b.Sheets[0].Cells = []api.Cell{cell(col, row, value(num(1, 0)))}
			right(t, b, want, col, row)
		}
	}
}

// TestRightOrder asks every two places, which may stand behind one another only if they rise.
func TestRightOrder(t *testing.T) {
	for i := range 9 {
		for j := range 9 {
			b := book.New()
			b.Sheets[0].Cells = []api.Cell{cell(1+i%3, 1+i/3, value(num(1, 0))), cell(1+j%3, 1+j/3, value(num(1, 0)))}
			want := api.ErrArg
			if i < j {
				want = api.OK
			}
			right(t, b, want, i, j)
		}
	}
	b := rich()
	b.Sheets[1].Cells = []api.Cell{cell(1, 1, value(num(1, 0)))}
	right(t, b, api.OK, "cells rise in each sheet for itself")
}

func TestRightInputs(t *testing.T) {
	for _, in := range []api.Input{
		value(num(0, 0)), value(num(-5, -18)), value(num(1, 18)), value(num(math.MaxInt64, 0)), value(num(math.MinInt64, 0)),
		value(text("")), value(text("=1")), value(text(strings.Repeat("a", 255))), value(truth(false)), value(truth(true)),
		value(wrong(api.EDiv)), value(wrong(api.ECycle)), formula("1"), formula("#REF!"), formula(`""`), formula("nowhere!A1"), formula("X(none)"),
	} {
		b := rich()
		at(&b, 3, 6).In = in
		right(t, b, api.OK, in)
	}
	for name, in := range wrongInputs() {
		b := book.New()
		b.Sheets[0].Cells = []api.Cell{cell(1, 1, in)}
		right(t, b, api.ErrArg, name)
	}
	long := tooLong()
	long.Kids[1].V.S = long.Kids[1].V.S[1:]
	b := rich()
	at(&b, 0, 0).In = with(long)
	b.Names[0].F = long
	right(t, b, api.OK, "a formula that is just not too long")
}

func TestRightLimits(t *testing.T) {
	right(t, full(), api.OK)
	is(t, book.Count(full()), api.MaxCells, "Count")
	b := full()
	b.Sheets = append(b.Sheets, api.Sheet{Name: "one more"})
	right(t, b, api.ErrBig, "sheets")
	b = full()
	b.Sheets[0].Cells = append(b.Sheets[0].Cells, cell(64, 512, value(num(1, 0))))
	right(t, b, api.ErrBig, "cells")
	b = full()
	b.Names = append(b.Names, api.Name{Name: "nz", F: tree("1")})
	right(t, b, api.ErrBig, "names")
	b = full()
	b.Styles = append(b.Styles, `0"one more"`)
	right(t, b, api.ErrBig, "styles")
	b = book.New()
	for i := range api.MaxCells {
		b.Sheets[0].Cells = append(b.Sheets[0].Cells, cell(1+i%api.MaxCol, 1+i/api.MaxCol, value(num(1, 0))))
	}
	right(t, b, api.OK, "all cells in one sheet")
	b.Sheets = append(b.Sheets, api.Sheet{Name: "b", Cells: []api.Cell{cell(1, 1, value(num(1, 0)))}})
	right(t, b, api.ErrBig, "one cell more in another sheet")
}

// TestRightSheetNames asks names of sheets, two of which may not differ in the case of letters alone, while other characters count.
func TestRightSheetNames(t *testing.T) {
	for _, two := range []struct {
		a, b string
		want api.Errno
	}{
		{"a", "a", api.ErrTwice}, {"a", "A", api.ErrTwice}, {"Z z", "z Z", api.ErrTwice}, {"sheet1", "SHEET1", api.ErrTwice},
		{"a", "b", api.OK}, {"a", "a ", api.OK}, {"@", "`", api.OK}, {"{", "(", api.OK}, {"^", "~", api.OK}, {"_", "-", api.OK}, {"a1", "a2", api.OK}, {"TRUE", "A1", api.OK},
	} {
		b := api.Book{Sheets: []api.Sheet{{Name: two.a}, {Name: "other"}, {Name: two.b}}, Styles: []string{"General"}}
		right(t, b, two.want, two.a, two.b)
	}
	for c := range 256 {
		b := book.New()
		b.Sheets[0].Name = "a" + string([]byte{byte(c)}) + "a"
		want := api.OK
		if c < 0x20 || c > 0x7e || strings.IndexByte(`:\/?*[]`, byte(c)) >= 0 {
			want = api.ErrName
		}
		right(t, b, want, c)
	}
}

func TestRightFaults(t *testing.T) {
	for _, one := range faults() {
		b := rich()
		one.do(&b)
		right(t, b, one.want, one.name)
		stop(t)
	}
}

// TestRightTwoFaults asks that, of two, the one that the document names first is told, wherever they stand.
func TestRightTwoFaults(t *testing.T) {
	all := faults()
	slices.Reverse(all) // what there is too much of, or nothing, is done last
	order := []api.Errno{api.ErrBig, api.ErrName, api.ErrTwice, api.ErrArg}
	for i, one := range all {
		for _, other := range all[i+1:] {
			if one.want == other.want {
				continue
			}
			b, first, then := rich(), one, other
			if strings.HasPrefix(one.name, "no s") { // what takes all of something away leaves no place for another fault
				first, then = other, one
			}
			first.do(&b)
			then.do(&b)
			want := order[min(slices.Index(order, one.want), slices.Index(order, other.want))]
			if got := book.Right(b); got != want {
				if got == modelRight(b) { // one has mended the other
					continue
				}
				t.Fatalf("%s, %s: %v, not %v", one.name, other.name, got, want)
			}
		}
	}
}

// TestRightAny asks books in which some of the faults are.
func TestRightAny(t *testing.T) {
	r := rand.New(rand.NewSource(1))
	all := slices.DeleteFunc(faults(), func(one fault) bool { return one.want == api.ErrBig || one.name == "no styles" })
	for range 3000 {
		b := rich()
		var names []string
		for range r.Intn(4) {
			one := pick(r, all...)
			one.do(&b)
			names = append(names, one.name)
		}
		is(t, book.Right(b), modelRight(b), "Right", names)
	}
	for range 2000 {
		b := anyBook(r)
		is(t, book.Right(b), api.OK, "Right", b)
	}
}
