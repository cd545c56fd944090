package graph_test

import (
	"fmt"
	"math/rand"
	"reflect"
	"slices"
	"sort"
	"strconv"
	"strings"
	"testing"

	"quire/api"
	"quire/book"
	"quire/cells"
	"quire/eval"
	"quire/expr"
	"quire/graph"
	"quire/val"
)

type place = graph.Place

// is holds what came against what must come.
func is[T comparable](t *testing.T, got, want T, what string, of ...any) {
	t.Helper()
	if got != want {
		t.Errorf("%s %s: %s, not %s", what, brief(of), brief(got), brief(want))
	}
}

// alike holds a list against the one that must come; one without an element may be nil or empty.
func alike[T any](t *testing.T, got, want []T, what string, of ...any) {
	t.Helper()
	if len(got)+len(want) > 0 && !reflect.DeepEqual(got, want) {
		t.Errorf("%s %s: %s, not %s", what, brief(of), brief(got), brief(want))
	}
}

// brief is what a failed test tells of x: books and places as they are written, and not too much of a great one.
func brief(x any) string {
	const most = 3000
	s := fmt.Sprintf("%+v", told(x))
	if len(s) > most {
		s = s[:most] + ".."
	}
	return strconv.QuoteToASCII(s)
}

func told(x any) any {
	switch x := x.(type) {
	case []any:
		var all []any
		for _, one := range x {
			all = append(all, told(one))
		}
		return all
	case api.Book:
		return shown(x)
	case []place:
		return names(x)
	}
	return x
}

// shown is a book as wrote takes it.
func shown(b api.Book) (lines []string) {
	for _, s := range b.Sheets {
		for _, c := range s.Cells {
			lines = append(lines, cells.Print(api.Ref{Sheet: s.Name, Col: c.Col, Row: c.Row})+": "+book.Show(c.In))
		}
	}
	for _, n := range b.Names {
		s, _ := expr.Print(n.F)
		lines = append(lines, n.Name+" := "+s)
	}
	return lines
}

// Books.

// sheetNames are those of the books that wrote makes.
var sheetNames = []string{"S", "T", "a b"}

// tree is the formula of a text.
func tree(s string) api.Expr {
	x, _, fault := expr.Parse(s)
	if fault != api.OK {
		panic(s)
	}
	return x
}

// wrote is a book of the sheets S, T and `a b`: of lines `A1: what is typed` (of S, if no other is named), and `name := formula`.
func wrote(lines ...string) api.Book {
	b := api.Book{Styles: []string{"General", "0.00"}}
	for _, name := range sheetNames {
		b.Sheets = append(b.Sheets, api.Sheet{Name: name})
	}
	for _, line := range lines {
		if name, formula, is := strings.Cut(line, " := "); is {
			b.Names = append(b.Names, api.Name{Name: name, F: tree(formula)})
			continue
		}
		where, typed, is := strings.Cut(line, ": ")
		in, wrong := book.Typed(typed)
		if !is || wrong != api.OK {
			panic(line)
		}
		p := at(where)[0]
		b.Sheets[p.Sheet].Cells = append(b.Sheets[p.Sheet].Cells, api.Cell{Col: p.Col, Row: p.Row, In: in})
	}
	return ordered(b)
}

// ordered puts a book's cells and names in their order.
func ordered(b api.Book) api.Book {
	for _, s := range b.Sheets {
		sort.Slice(s.Cells, func(i, j int) bool {
			return s.Cells[i].Row*100+s.Cells[i].Col < s.Cells[j].Row*100+s.Cells[j].Col
		})
	}
	sort.Slice(b.Names, func(i, j int) bool { return b.Names[i].Name < b.Names[j].Name })
	if book.Right(b) != api.OK {
		panic("a book that is not right: " + brief(b))
	}
	return b
}

// at is the places that a text names, in their order there, in a book of wrote.
func at(s string) (all []place) {
	for _, s := range strings.Fields(strings.ReplaceAll(s, "'a b'", "a_b")) {
		r, fault := cells.Parse(s)
		i := slices.Index([]string{"", "S", "T", "a_b"}, r.Sheet)
		if fault != api.OK || i < 0 {
			panic(s)
		}
		all = append(all, place{Sheet: max(0, i-1), Col: r.Col, Row: r.Row})
	}
	return all
}

// names tells places as at takes them.
func names(l []place) string {
	var all []string
	for _, p := range l {
		if s := cells.Print(api.Ref{Col: p.Col, Row: p.Row}); s == "#REF!" || p.Sheet < 0 || p.Sheet > 2 {
			all = append(all, fmt.Sprint(p))
		} else {
			all = append(all, []string{"", "T!", "'a b'!"}[p.Sheet]+s)
		}
	}
	return strings.Join(all, " ")
}

// memory tells all that x has, with the spare room of its lists.
func memory(x any) string { return string(tell(nil, reflect.ValueOf(x))) }

func tell(b []byte, x reflect.Value) []byte {
	switch x.Kind() {
	case reflect.Slice:
		b = fmt.Appendf(b, "[%d %d", x.Len(), x.Cap())
		x = x.Slice(0, x.Cap())
		for i := range x.Len() {
			b = tell(b, x.Index(i))
		}
		return append(b, ']')
	case reflect.Struct:
		for i := range x.NumField() {
			b = tell(b, x.Field(i))
		}
		return append(b, '.')
	}
	return fmt.Appendf(b, "%q ", fmt.Sprint(x.Interface()))
}

// roomy is x with spare room behind each of its lists, in which something stands.
func roomy[T any](x T) T {
	made := reflect.New(reflect.TypeOf(x)).Elem()
	copyRoomy(made, reflect.ValueOf(x), true)
	return made.Interface().(T)
}

func copyRoomy(to, from reflect.Value, more bool) {
	switch from.Kind() {
	case reflect.Slice:
		n := from.Len()
		made := reflect.MakeSlice(from.Type(), n+2, n+2)
		for i := range n {
			copyRoomy(made.Index(i), from.Index(i), more)
		}
		if n > 0 && more {
			copyRoomy(made.Index(n), from.Index(0), false)
		}
		to.Set(made.Slice(0, n))
	case reflect.Struct:
		for i := range from.NumField() {
			copyRoomy(to.Field(i), from.Field(i), more)
		}
	default:
		to.Set(from)
	}
}

// The model: the calls by the words alone.

// model is what the words say of one book: its formulas, in order, and the rectangles that each needs.
type model struct {
	b        api.Book
	formulas []place
	rects    map[place][]eval.Rect
}

func newModel(b api.Book) *model {
	m := &model{b: b, rects: map[place][]eval.Rect{}}
	for i, s := range b.Sheets {
		for _, c := range s.Cells {
			if p := (place{Sheet: i, Col: c.Col, Row: c.Row}); c.In.Formula {
				m.formulas = append(m.formulas, p)
				m.rects[p] = eval.Needs(b, i, c.In.F)
			}
		}
	}
	m.formulas = m.inOrder(func(p place) bool { return slices.Contains(m.formulas, p) })
	return m
}

// inOrder are the formulas that are chosen, in the order of places: by their sheets, rows and columns, one by one.
func (m *model) inOrder(chosen func(p place) bool) (all []place) {
	for _, p := range m.formulas {
		if chosen(p) {
			all = append(all, p)
		}
	}
	sort.Slice(all, func(i, j int) bool {
		a, b := all[i], all[j]
		if a.Sheet != b.Sheet {
			return a.Sheet < b.Sheet
		}
		return a.Row < b.Row || a.Row == b.Row && a.Col < b.Col
	})
	return all
}

// leads tells whether the formula at p needs q.
func (m *model) leads(p, q place) bool {
	return slices.ContainsFunc(m.rects[p], func(r eval.Rect) bool {
		return r.Sheet == q.Sheet && r.C1 <= q.Col && q.Col <= r.C2 && r.R1 <= q.Row && q.Row <= r.R2
	})
}

func (m *model) needs(p place) []place {
	return m.inOrder(func(q place) bool { return m.leads(p, q) })
}

func (m *model) needed(q place) []place {
	return m.inOrder(func(p place) bool { return m.leads(p, q) })
}

// dirty goes over all formulas again and again, till a round finds none.
func (m *model) dirty(l []place) []place {
	found := map[place]bool{}
	for more := true; more; {
		more = false
		for _, p := range m.formulas {
			needs := func(q place) bool { return m.leads(p, q) }
			if !found[p] && (slices.Contains(l, p) || slices.ContainsFunc(l, needs) || slices.ContainsFunc(m.inOrder(func(q place) bool { return found[q] }), needs)) {
				found[p], more = true, true
			}
		}
	}
	return m.inOrder(func(p place) bool { return found[p] })
}

func (m *model) cycle(p place) bool { return eval.Cycle(m.b, p.Sheet, p.Col, p.Row) }

func (m *model) cycles() []place { return m.inOrder(m.cycle) }

// order takes, from those that are on no cycle, each time the first that needs none of those left.
func (m *model) order(l []place) (line []place) {
	asked := func(p place) bool { return slices.Contains(l, p) }
	left := m.inOrder(func(p place) bool { return asked(p) && !m.cycle(p) })
	for len(left) > 0 {
		next := slices.IndexFunc(left, func(p place) bool {
			return !slices.ContainsFunc(left, func(q place) bool { return m.leads(p, q) })
		})
		line = append(line, left[next])
		left = slices.Delete(left, next, next+1)
	}
	return append(line, m.inOrder(func(p place) bool { return asked(p) && m.cycle(p) })...)
}

// hold holds all that a book's graph tells against the model: of all places that count, and of some lists of them.
func hold(t *testing.T, r *rand.Rand, b api.Book) {
	t.Helper()
	g, m := graph.New(b), newModel(b)
	alike(t, g.Formulas(), m.formulas, "Formulas", b)
	alike(t, g.Cycles(), m.cycles(), "Cycles", b)
	alike(t, g.Order(g.Formulas()), m.order(m.formulas), "Order of all", b)
	for _, p := range somePlaces {
		alike(t, g.Needs(p), m.needs(p), "Needs", p, b)
		alike(t, g.Needed(p), m.needed(p), "Needed", p, b)
		alike(t, g.Dirty([]place{p}), m.dirty([]place{p}), "Dirty", p, b)
		alike(t, g.Order([]place{p}), m.order([]place{p}), "Order", p, b)
	}
	for range 5 {
		l := anyPlaces(r)
		alike(t, g.Dirty(l), m.dirty(l), "Dirty", l, b)
		alike(t, g.Order(l), m.order(l), "Order", l, b)
	}
	if t.Failed() {
		t.FailNow()
	}
}

// Books and places of any kind.

func pick[T any](r *rand.Rand, l ...T) T { return l[r.Intn(len(l))] }

// somePlaces are all those of which anyBook makes cells, and some beside them.
var somePlaces = places()

func places() (all []place) {
	for sheet := range 4 {
		for row := range 5 {
			for col := range 5 {
				all = append(all, place{Sheet: sheet, Col: col, Row: row})
			}
		}
	}
	return append(all, place{Sheet: -1, Col: 1, Row: 1}, place{Sheet: 0, Col: 64, Row: 512}, place{Sheet: 0, Col: 65, Row: 1}, place{Sheet: 0, Col: 1, Row: 513})
}

// anyPlaces is a list of some, in any order, some of them twice.
func anyPlaces(r *rand.Rand) (l []place) {
	for range pick(r, 0, 1, 2, 3, 5, 9, 30) {
		l = append(l, pick(r, somePlaces...))
	}
	return l
}

var cellsOf = []string{"A1", "B1", "C1", "A2", "B2", "C2", "A3", "B3", "C3", "$A$1", "B$2", "BL512"}

// anyPart is one that a formula is made of: most are references or ranges, of a few cells, of the formula's own sheet, of one that there is, of one that there is not.
func anyPart(r *rand.Rand) string {
	if r.Intn(4) == 0 {
		return pick(r, "1", `"x"`, "TRUE", "#REF!", "none", "N1", "n1", "n2", "n3", "n4", "n1", "n2")
	}
	s := pick(r, "", "", "", "S!", "T!", "'a b'!", "s!", "None!") + pick(r, cellsOf...)
	if r.Intn(5) == 0 {
		s += ":" + pick(r, cellsOf[:11]...)
	}
	return s
}

func anyTree(r *rand.Rand) api.Expr {
	s := anyPart(r)
	for range pick(r, 0, 0, 0, 1, 1, 2, 4) {
		s = pick(r, "SUM("+s+",", "ROWS("+s+")+(", "IF(FALSE,"+s+",", "-("+s+"&", "("+s+"*") + anyPart(r) + ")"
	}
	return tree(s)
}

var someValues = []api.Value{{}, val.Typed("0"), val.Typed("1"), val.Typed("-2.5"), val.Str(""), val.Str("x"), val.Truth(true), val.Err(api.EDiv), val.Err(api.ECycle)}

// anyInput is a formula, as often as is asked of ten times, or a value.
func anyInput(r *rand.Rand, formulas int) api.Input {
	if r.Intn(10) < formulas {
		return api.Input{Formula: true, F: anyTree(r)}
	}
	return api.Input{V: pick(r, someValues...)}
}

// anyBook is a right one, with as many formulas among few places as make cycles often, but not always.
func anyBook(r *rand.Rand) api.Book {
	b := wrote()
	b.Sheets = b.Sheets[:1+r.Intn(3)]
	formulas := 1 + r.Intn(9)
	for i := range b.Sheets {
		for j := range 9 {
			c := api.Cell{Col: j%3 + 1, Row: j/3 + 1, In: anyInput(r, formulas), Style: r.Intn(2)}
			if !book.Empty(c) && r.Intn(5) > 0 {
				b.Sheets[i].Cells = append(b.Sheets[i].Cells, c)
			}
		}
	}
	for _, name := range []string{"n1", "n2", "n3", "n4"}[:r.Intn(5)] {
		b.Names = append(b.Names, api.Name{Name: name, F: anyTree(r)})
	}
	return ordered(b)
}

// wrongBooks are books that are not right, each by another fault, all with formulas that need one another.
func wrongBooks() map[string]api.Book {
	all := map[string]api.Book{"zero": {}}
	put := func(what string, turn func(b *api.Book)) {
		b := wrote("A1: 1", "B1: =A1", "C1: =B1+C1", "T!A1: =S!B1+n", "n := A1")
		turn(&b)
		all[what] = b
	}
	put("no sheet", func(b *api.Book) { b.Sheets = nil })
	put("a sheet's name", func(b *api.Book) { b.Sheets[2].Name = "a/b" })
	put("a sheet twice", func(b *api.Book) { b.Sheets[1].Name = "s" })
	put("no General", func(b *api.Book) { b.Styles = nil })
	put("another first style", func(b *api.Book) { b.Styles = b.Styles[1:] })
	put("a style that is none", func(b *api.Book) { b.Styles[1] = "?" })
	put("a cell's style", func(b *api.Book) { b.Sheets[0].Cells[0].Style = 2 })
	put("cells that do not rise", func(b *api.Book) { slices.Reverse(b.Sheets[0].Cells) })
	put("a cell twice", func(b *api.Book) { b.Sheets[0].Cells[1].Col = 1 })
	put("an empty cell", func(b *api.Book) { b.Sheets[2].Cells = []api.Cell{{Col: 1, Row: 1}} })
	put("a column", func(b *api.Book) { b.Sheets[0].Cells[2].Col = 65 })
	put("a value", func(b *api.Book) { b.Sheets[0].Cells[0].In.V.S = "x" })
	put("a formula", func(b *api.Book) { b.Sheets[0].Cells[1].In.F.Kids = []api.Expr{{}} })
	put("a formula beside a value", func(b *api.Book) { b.Sheets[0].Cells[1].In.V = val.Typed("1") })
	put("a name", func(b *api.Book) { b.Names[0].Name = "A1" })
	put("a name's formula", func(b *api.Book) { b.Names[0].F = api.Expr{} })
	put("a name twice", func(b *api.Book) { b.Names = append(b.Names, b.Names[0]) })
	put("names that do not rise", func(b *api.Book) { b.Names = append(b.Names, api.Name{Name: "a", F: tree("1")}) })
	put("too many cells", func(b *api.Book) {
		for i := range api.MaxCells {
			b.Sheets[2].Cells = append(b.Sheets[2].Cells, api.Cell{Col: 1 + i%64, Row: 1 + i/64, In: api.Input{V: val.Typed("1")}})
		}
	})
	return all
}

// The model itself is held against what can be told by hand.
func TestModel(t *testing.T) {
	b := wrote("A1: 2", "A2: =A1*3", "A3: =SUM(A1:A2)", "B1: =C1", "C1: =B1", "D1: =B1", "D2: =A3+n", "T!A1: =S!A2", "n := D1")
	m := newModel(b)
	is(t, names(m.formulas), "B1 C1 D1 A2 D2 A3 T!A1", "the model's formulas")
	is(t, names(m.needs(at("D2")[0])), "D1 A3", "the model's Needs")
	is(t, names(m.needed(at("A2")[0])), "A3 T!A1", "the model's Needed")
	is(t, names(m.dirty(at("A1"))), "A2 D2 A3 T!A1", "the model's Dirty")
	is(t, names(m.dirty(at("C1 T!A1"))), "B1 C1 D1 D2 T!A1", "the model's Dirty")
	is(t, names(m.cycles()), "B1 C1", "the model's Cycles")
	is(t, names(m.order(m.formulas)), "D1 A2 A3 D2 T!A1 B1 C1", "the model's Order")
}
