package book_test

import (
	"math"
	"math/rand"
	"reflect"
	"testing"

	"quire/api"
	"quire/book"
)

// everyChange does each change of one place to x, however deep, one at a time, and takes it back: each number, text and bool is another one, each list is one shorter or longer.
func everyChange(x reflect.Value, way string, each func(way string)) {
	change := func(to reflect.Value) {
		was := reflect.New(x.Type()).Elem()
		was.Set(x)
		x.Set(to)
		each(way)
		x.Set(was)
	}
	switch x.Kind() {
	case reflect.Int, reflect.Int64:
		change(reflect.ValueOf(x.Int() + 1).Convert(x.Type()))
		change(reflect.ValueOf(x.Int() ^ math.MinInt64).Convert(x.Type()))
	case reflect.String:
		change(reflect.ValueOf(x.String() + "a"))
		change(reflect.ValueOf("Q" + x.String()))
	case reflect.Bool:
		change(reflect.ValueOf(!x.Bool()))
	case reflect.Struct:
		for i := range x.NumField() {
			everyChange(x.Field(i), way+"."+x.Type().Field(i).Name, each)
		}
	case reflect.Slice:
		longer := reflect.MakeSlice(x.Type(), x.Len()+1, x.Len()+1)
		reflect.Copy(longer, x)
		change(longer)
		if x.Len() > 0 {
			change(x.Slice(0, x.Len()-1))
			change(x.Slice(1, x.Len()))
		}
		for i := range x.Len() {
			everyChange(x.Index(i), way+"[]", each)
		}
	}
}

// same asks Same both ways round.
func same(t *testing.T, a, b api.Book, want bool, of ...any) {
	t.Helper()
	is(t, book.Same(a, b), want, "Same", of...)
	is(t, book.Same(b, a), want, "Same, the other way round", of...)
}

// odd are books that are not right, of kinds that must be taken all the same.
func odd() []api.Book {
	deep := api.Expr{}
	for range 1 << 16 {
		deep = api.Expr{Kind: api.XNeg, Kids: []api.Expr{deep}}
	}
	twice := rich()
	twice.Sheets = append(twice.Sheets, twice.Sheets...)
	return []api.Book{
		{},
		{Sheets: []api.Sheet{{}, {}}, Names: []api.Name{{}, {}}, Styles: []string{"", ""}},
		{Sheets: []api.Sheet{{Cells: []api.Cell{{}, {}, {Col: math.MinInt, Row: math.MaxInt, Style: -1}}}}},
		{Sheets: []api.Sheet{{Cells: []api.Cell{{In: api.Input{Formula: true, V: num(10, 99), F: api.Expr{Kind: api.XRef, Kids: []api.Expr{{}, {Kids: []api.Expr{{}}}}}}}}}}},
		{Names: []api.Name{{Name: "\xff", F: deep}}},
		{Names: []api.Name{{F: api.Expr{Kind: api.XRange, Ref: api.Ref{Col: 99}, To: api.Ref{Sheet: ":"}}}}, Sheets: []api.Sheet{{Cells: []api.Cell{{In: api.Input{F: deep}}}}}},
		twice,
	}
}

// P1502

func TestSame(t *testing.T) {
	books := append(odd(), rich(), full(), book.New(), api.Book{Styles: []string{"General"}})
	for i, a := range books {
		for j, b := range books {
			same(t, a, b, i == j, i, j)
		}
		same(t, a, plain(a).(api.Book), true, i)
		same(t, a, roomy(a), true, i, "lists without an element may be nil or empty, spare room does not count")
	}
}

// TestSameChanged asks that books which differ in one place alone are not the same, whichever the place.
func TestSameChanged(t *testing.T) {
	a, b := rich(), rich()
	met := map[string]int{}
	everyChange(reflect.ValueOf(&b).Elem(), "", func(way string) {
		met[way]++
		same(t, a, b, false, way)
		stop(t)
	})
	same(t, a, b, true)
	for _, way := range []string{".Sheets", ".Names", ".Styles", ".Styles[]", ".Sheets[].Name", ".Sheets[].Cells", ".Names[].Name", ".Sheets[].Cells[].Col", ".Sheets[].Cells[].Row", ".Sheets[].Cells[].Style", ".Sheets[].Cells[].In.Formula", ".Sheets[].Cells[].In.V.N.C", ".Sheets[].Cells[].In.V.N.E", ".Sheets[].Cells[].In.V.S", ".Sheets[].Cells[].In.F.Kids[].Kids[].Kids[].Name", ".Names[].F.Kids[].Kids[].Kids[].Ref.AbsCol"} {
		is(t, met[way] > 0, true, "changed", way)
	}
}

func TestClone(t *testing.T) {
	books := append(odd(), rich(), full(), book.New())
	for _, b := range books[:len(books):len(books)] {
		books = append(books, roomy(b))
	}
	for i, b := range books {
		was := memory(b)
		c := book.Clone(b)
		same(t, b, c, true, i)
		alike(t, c, b, "Clone", i)
		apart(t, "Clone", c, b)
		is(t, memory(b) == was, true, "Clone left the book as it was", i)
	}
}

// TestCloneChanged asks that what is done to a clone leaves the book as it was, and the other way round.
func TestCloneChanged(t *testing.T) {
	b := roomy(rich())
	c := book.Clone(b)
	for _, two := range [][2]*api.Book{{&b, &c}, {&c, &b}} {
		was := memory(*two[1])
		everyChange(reflect.ValueOf(two[0]).Elem(), "", func(way string) {
			if memory(*two[1]) != was {
				t.Fatal("changed with the other", way)
			}
		})
	}
}

func TestCount(t *testing.T) {
	is(t, book.Count(api.Book{}), 0, "Count")
	is(t, book.Count(book.New()), 0, "Count")
	is(t, book.Count(rich()), 28, "Count")
	is(t, book.Count(full()), 2000, "Count")
	b := api.Book{Sheets: make([]api.Sheet, 40)}
	for i := range b.Sheets {
		b.Sheets[i].Cells = make([]api.Cell, i*10)
		is(t, book.Count(b), 10*i*(i+1)/2, "Count", i)
	}
	r := rand.New(rand.NewSource(2))
	for range 500 {
		b := anyBook(r)
		is(t, book.Count(b), modelCount(b), "Count", b)
	}
}

func TestEmpty(t *testing.T) {
	for _, n := range []int{math.MinInt, -1, 0, 1, 64, 65, math.MaxInt} {
		is(t, book.Empty(cell(n, 1, api.Input{})), true, "Empty, column", n)
		is(t, book.Empty(cell(1, n, api.Input{})), true, "Empty, row", n)
		is(t, book.Empty(styled(1, 1, n)), n == 0, "Empty, style", n)
	}
	is(t, book.Empty(api.Cell{In: api.Input{F: api.Expr{Kids: []api.Expr{}}}}), true, "Empty with a list without an element")
	for _, in := range []api.Input{value(num(0, 0)), value(text("")), value(truth(false)), value(wrong(1)), formula("1"), {Formula: true}} {
		is(t, book.Empty(cell(1, 1, in)), false, "Empty", in)
	}
	c := api.Cell{}
	everyChange(reflect.ValueOf(&c).Elem(), "", func(way string) {
		is(t, book.Empty(c), way == ".Col" || way == ".Row", "Empty", way)
	})
}
