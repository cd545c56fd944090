package eval_test

import (
	"fmt"
	"math/rand"
	"reflect"
	"slices"
	"sort"
	"strconv"
	"strings"
	"testing"

	"quire/api"
	"quire/book"
	"quire/cells"
	"quire/eval"
	"quire/expr"
	"quire/funcs"
	"quire/val"
)

// is holds what came against what must come.
func is[T comparable](t *testing.T, got, want T, what string, of ...any) {
	t.Helper()
	if got != want {
		t.Errorf("%s %s: %s, not %s", what, brief(of), brief(got), brief(want))
	}
}

// alike holds a list against the one that must come; one without an element may be nil or empty.
func alike[T any](t *testing.T, got, want []T, what string, of ...any) {
	t.Helper()
	if len(got)+len(want) > 0 && !reflect.DeepEqual(got, want) {
		t.Errorf("%s %s: %s, not %s", what, brief(of), brief(got), brief(want))
	}
}

// brief is what a failed test tells of x: books and formulas as they are written, and not too much of a great one.
func brief(x any) string {
	const most = 3000
	s := fmt.Sprintf("%+v", told(x))
	if len(s) > most {
		s = s[:most] + ".."
	}
	return strconv.QuoteToASCII(s)
}

func told(x any) any {
	switch x := x.(type) {
	case []any:
		var all []any
		for _, one := range x {
			all = append(all, told(one))
		}
		return all
	case api.Book:
		return shown(x)
	case api.Expr:
		if s, fault := expr.Print(x); fault == api.OK {
			return s
		}
	}
	return x
}

// shown is a book as wrote takes it.
func shown(b api.Book) (lines []string) {
	for _, s := range b.Sheets {
		for _, c := range s.Cells {
			lines = append(lines, cells.Print(api.Ref{Sheet: s.Name, Col: c.Col, Row: c.Row})+": "+book.Show(c.In))
		}
	}
	for _, n := range b.Names {
		s, _ := expr.Print(n.F)
		lines = append(lines, n.Name+" := "+s)
	}
	return lines
}

// Values and formulas.

var empty api.Value

func fail(code int) api.Value { return api.Value{Kind: api.VErr, E: code} }

func num(c int64) api.Value { return val.Typed(strconv.FormatInt(c, 10)) }

// tree is the formula of a text.
func tree(s string) api.Expr {
	x, _, fault := expr.Parse(s)
	if fault != api.OK {
		panic(s)
	}
	return x
}

// Books.

// sheetNames are those of the books that wrote makes.
var sheetNames = []string{"S", "T", "a b"}

// wrote is a book of the sheets S, T and `a b`: of lines `A1: what is typed` (of S, if no other is named), and `name := formula`.
func wrote(lines ...string) api.Book {
	b := api.Book{Styles: []string{"General", "0.00"}}
	for _, name := range sheetNames {
		b.Sheets = append(b.Sheets, api.Sheet{Name: name})
	}
	for _, line := range lines {
		if name, formula, is := strings.Cut(line, " := "); is {
			b.Names = append(b.Names, api.Name{Name: name, F: tree(formula)})
			continue
		}
		at, typed, is := strings.Cut(line, ": ")
		r, fault := cells.Parse(at)
		in, wrong := book.Typed(typed)
		if !is || fault != api.OK || wrong != api.OK {
			panic(line)
		}
		i := max(0, slices.Index(sheetNames, r.Sheet))
		b.Sheets[i].Cells = append(b.Sheets[i].Cells, api.Cell{Col: r.Col, Row: r.Row, In: in})
	}
	return ordered(b)
}

// ordered puts a book's cells and names in their order.
func ordered(b api.Book) api.Book {
	for _, s := range b.Sheets {
		sort.Slice(s.Cells, func(i, j int) bool {
			return s.Cells[i].Row*100+s.Cells[i].Col < s.Cells[j].Row*100+s.Cells[j].Col
		})
	}
	sort.Slice(b.Names, func(i, j int) bool { return b.Names[i].Name < b.Names[j].Name })
	if book.Right(b) != api.OK {
		panic("a book that is not right: " + brief(b))
	}
	return b
}

// place is where a cell stands.
type place struct{ sheet, col, row int }

// at is the place that a text names, in a book of wrote.
func at(s string) place {
	r, fault := cells.Parse(s)
	if fault != api.OK {
		panic(s)
	}
	return place{max(0, slices.Index(sheetNames, r.Sheet)), r.Col, r.Row}
}

// places are all of a book's cells, in their order.
func places(b api.Book) (all []place) {
	for i, s := range b.Sheets {
		for _, c := range s.Cells {
			all = append(all, place{i, c.Col, c.Row})
		}
	}
	return all
}

// memory tells all that x has, with the spare room of its lists.
func memory(x any) string { return string(tell(nil, reflect.ValueOf(x))) }

func tell(b []byte, x reflect.Value) []byte {
	switch x.Kind() {
	case reflect.Slice:
		b = fmt.Appendf(b, "[%d %d", x.Len(), x.Cap())
		x = x.Slice(0, x.Cap())
		for i := range x.Len() {
			b = tell(b, x.Index(i))
		}
		return append(b, ']')
	case reflect.Struct:
		for i := range x.NumField() {
			b = tell(b, x.Field(i))
		}
		return append(b, '.')
	}
	return fmt.Appendf(b, "%q ", fmt.Sprint(x.Interface()))
}

// roomy is x with spare room behind each of its lists, in which something stands.
func roomy[T any](x T) T {
	made := reflect.New(reflect.TypeOf(x)).Elem()
	copyRoomy(made, reflect.ValueOf(x), true)
	return made.Interface().(T)
}

func copyRoomy(to, from reflect.Value, more bool) {
	switch from.Kind() {
	case reflect.Slice:
		n := from.Len()
		made := reflect.MakeSlice(from.Type(), n+2, n+2)
		for i := range n {
			copyRoomy(made.Index(i), from.Index(i), more)
		}
		if n > 0 && more {
			copyRoomy(made.Index(n), from.Index(0), false)
		}
		to.Set(made.Slice(0, n))
	case reflect.Struct:
		for i := range from.NumField() {
			copyRoomy(to.Field(i), from.Field(i), more)
		}
	default:
		to.Set(from)
	}
}

// The model: the calls by the words alone.

// modelSheet is the number of the sheet that a reference is to; -1, if there is none.
func modelSheet(b api.Book, sheet int, r api.Ref) int {
	if r.Sheet == "" {
		return sheet
	}
	for i, s := range b.Sheets {
		if s.Name == r.Sheet {
			return i
		}
	}
	return -1
}

func modelName(b api.Book, name string) (api.Expr, bool) {
	for _, n := range b.Names {
		if n.Name == name {
			return n.F, true
		}
	}
	return api.Expr{}, false
}

// modelUses: does a name stand in the formula?
func modelUses(x api.Expr, name string) bool {
	return x.Kind == api.XName && x.Name == name || slices.ContainsFunc(x.Kids, func(kid api.Expr) bool { return modelUses(kid, name) })
}

// modelCircular are the names that are: one leads to another by one step, by two, by twice as many, and so on.
func modelCircular(b api.Book) map[string]bool {
	n := len(b.Names)
	leads := make([][]bool, n)
	for i := range leads {
		leads[i] = make([]bool, n)
		for j := range n {
			leads[i][j] = modelUses(b.Names[i].F, b.Names[j].Name)
		}
	}
	close(leads)
	all := map[string]bool{}
	for i := range n {
		all[b.Names[i].Name] = leads[i][i]
	}
	return all
}

// close makes of what leads where at once what leads where by others.
func close(leads [][]bool) {
	for by := range leads {
		for i := range leads {
			for j := range leads {
				leads[i][j] = leads[i][j] || leads[i][by] && leads[by][j]
			}
		}
	}
}

// modelRect is that of a reference or a range.
func modelRect(sheet int, x api.Expr) eval.Rect {
	if x.Kind == api.XRef {
		return eval.Rect{Sheet: sheet, C1: x.Ref.Col, R1: x.Ref.Row, C2: x.Ref.Col, R2: x.Ref.Row}
	}
	cols, rows := []int{x.Ref.Col, x.To.Col}, []int{x.Ref.Row, x.To.Row}
	sort.Ints(cols)
	sort.Ints(rows)
	return eval.Rect{Sheet: sheet, C1: cols[0], R1: rows[0], C2: cols[1], R2: rows[1]}
}

func modelNeeds(b api.Book, sheet int, x api.Expr) []eval.Rect {
	var met []string
	return modelNeedsOf(b, sheet, x, &met)
}

func modelNeedsOf(b api.Book, sheet int, x api.Expr, met *[]string) (all []eval.Rect) {
	if x.Kind == api.XRef || x.Kind == api.XRange {
		if s := modelSheet(b, sheet, x.Ref); s >= 0 {
			all = append(all, modelRect(s, x))
		}
	}
	if f, there := modelName(b, x.Name); there && x.Kind == api.XName && !slices.Contains(*met, x.Name) {
		*met = append(*met, x.Name)
		all = append(all, modelNeedsOf(b, sheet, f, met)...)
	}
	for _, kid := range x.Kids {
		all = append(all, modelNeedsOf(b, sheet, kid, met)...)
	}
	return all
}

// model reckons formulas of one book.
type model struct {
	b        api.Book
	circular map[string]bool
	cells    []place
	at       map[place]api.Input
	cycles   map[place]bool
	values   map[place]api.Value
}

func newModel(b api.Book) *model {
	m := &model{b: b, circular: modelCircular(b), cells: places(b), at: map[place]api.Input{}, cycles: map[place]bool{}, values: map[place]api.Value{}}
	for i, s := range b.Sheets {
		for _, c := range s.Cells {
			m.at[place{i, c.Col, c.Row}] = c.In
		}
	}
	leads := m.leads()
	close(leads)
	for i, p := range m.cells {
		m.cycles[p] = leads[i][i]
	}
	return m
}

// leads tells which cells need which at once.
func (m *model) leads() [][]bool {
	leads := make([][]bool, len(m.cells))
	for i, p := range m.cells {
		leads[i] = make([]bool, len(m.cells))
		if !m.at[p].Formula {
			continue
		}
		l := modelNeeds(m.b, p.sheet, m.at[p].F)
		for j, q := range m.cells {
			leads[i][j] = slices.ContainsFunc(l, func(r eval.Rect) bool { return holds(r, q) })
		}
	}
	return leads
}

func holds(r eval.Rect, p place) bool {
	return r.Sheet == p.sheet && r.C1 <= p.col && p.col <= r.C2 && r.R1 <= p.row && p.row <= r.R2
}

func (m *model) value(p place) api.Value {
	in := m.at[p]
	if !in.Formula {
		return in.V
	}
	if m.cycles[p] {
		return fail(api.ECycle)
	}
	v, known := m.values[p]
	if !known {
		v = m.formula(p.sheet, in.F, func(sheet, col, row int) api.Value { return m.value(place{sheet, col, row}) })
		if v == empty {
			v = num(0)
		}
		m.values[p] = v
	}
	return v
}

type telling = func(sheet, col, row int) api.Value

func (m *model) formula(sheet int, x api.Expr, at telling) api.Value {
	of := func(i int) api.Value { return m.formula(sheet, x.Kids[i], at) }
	switch x.Kind {
	case api.XNum, api.XText, api.XBool:
		return x.V
	case api.XRef, api.XRange:
		s := modelSheet(m.b, sheet, x.Ref)
		if s < 0 {
			return fail(api.ERef)
		}
		if r := modelRect(s, x); r.C1 == r.C2 && r.R1 == r.R2 {
			return at(s, r.C1, r.R1)
		}
		return fail(api.EValue)
	case api.XName:
		f, there := modelName(m.b, x.Name)
		if !there {
			return fail(api.EName)
		}
		if m.circular[x.Name] {
			return fail(api.ECycle)
		}
		return m.formula(sheet, f, at)
	case api.XNeg:
		return val.Neg(of(0))
	case api.XPct:
		return val.Pct(of(0))
	case api.XBin:
		return val.Bin(x.Op, of(0), of(1))
	case api.XCall:
		var l []funcs.Arg
		for _, kid := range x.Kids {
			l = append(l, m.argument(sheet, kid, at))
		}
		return funcs.Apply(x.Name, l)
	case api.XBad:
		return fail(api.ERef)
	}
	panic("a kind that is none")
}

func (m *model) argument(sheet int, x api.Expr, at telling) funcs.Arg {
	f := x
	for f.Kind == api.XName && !m.circular[f.Name] {
		f, _ = modelName(m.b, f.Name)
	}
	if f.Kind != api.XRef && f.Kind != api.XRange {
		return funcs.One(m.formula(sheet, x, at))
	}
	s := modelSheet(m.b, sheet, f.Ref)
	if s < 0 {
		return funcs.One(fail(api.ERef))
	}
	r := modelRect(s, f)
	a := funcs.Arg{Area: true, Cols: 1 + r.C2 - r.C1, Rows: 1 + r.R2 - r.R1, Col: r.C1, Row: r.R1}
	for i := range a.Cols * a.Rows {
		a.V = append(a.V, at(s, r.C1+i%a.Cols, r.R1+i/a.Cols))
	}
	return a
}

// hold holds all that the calls tell of a right book against the model, and that the book stays as it is.
func hold(t *testing.T, b api.Book) {
	t.Helper()
	m, before := newModel(b), memory(b)
	all := eval.Values(b)
	is(t, len(all), len(b.Sheets), "Values", b)
	for i, s := range b.Sheets {
		var want []api.Result
		for _, c := range s.Cells {
			p := place{i, c.Col, c.Row}
			want = append(want, api.Result{Col: c.Col, Row: c.Row, V: m.value(p)})
			is(t, eval.Value(b, i, c.Col, c.Row), m.value(p), "Value", p, b)
			is(t, eval.Cycle(b, i, c.Col, c.Row), m.cycles[p], "Cycle", p, b)
			if c.In.Formula {
				alike(t, eval.Needs(b, i, c.In.F), modelNeeds(b, i, c.In.F), "Needs", p, b)
			}
		}
		if i < len(all) {
			alike(t, all[i], want, "Values", i, b)
		}
	}
	is(t, memory(b), before, "the book was changed")
	if t.Failed() {
		t.FailNow()
	}
}

// Books of any kind.

func pick[T any](r *rand.Rand, l ...T) T { return l[r.Intn(len(l))] }

var atoms = []string{"1", "0", "2.5", `"x"`, `""`, `"3"`, "TRUE", "FALSE", "#REF!", "NA()", "none", "N1", "n1", "n2", "n3", "n4", "n1", "n2"}

var cellsOf = []string{"A1", "B1", "C1", "A2", "B2", "C2", "A3", "B3", "C3", "$A$1", "B$2", "BL512"}

// anyRef is a reference or a range: to a few cells, of the formula's own sheet, of one that there is, of one that there is not.
func anyRef(r *rand.Rand) string {
	s := pick(r, "", "", "", "S!", "T!", "'a b'!", "s!", "None!") + pick(r, cellsOf...)
	if r.Intn(4) == 0 {
		s += ":" + pick(r, cellsOf[:11]...)
	}
	return s
}

// anyFormula is the text of a formula of any shape.
func anyFormula(r *rand.Rand, deep int) string {
	part := func() string { return anyFormula(r, deep-1) }
	if deep <= 0 {
		return pick(r, pick(r, atoms...), anyRef(r))
	}
	switch r.Intn(12) {
	case 0:
		return "-(" + part() + ")"
	case 1:
		return "(" + part() + ")%"
	case 2, 3:
		return pick(r, "SUM", "COUNT", "COUNTBLANK", "ROWS", "COLUMN", "ISERROR", "ISBLANK", "CONCAT", "NONE") + "(" + part() + ")"
	case 4:
		return "IF(" + part() + "," + part() + "," + part() + ")"
	case 5:
		return pick(r, "IFERROR", "INDEX", "SUM", "COUNTIF", "MATCH") + "(" + part() + "," + part() + ")"
	case 6, 7:
		return part()
	}
	return "(" + part() + ")" + pick(r, "+", "-", "*", "/", "^", "&", "=", "<>", "<", "<=", ">", ">=") + "(" + part() + ")"
}

func anyTree(r *rand.Rand, deep int) api.Expr {
	for {
		if x, _, _ := expr.Parse(anyFormula(r, r.Intn(deep+1))); expr.Right(x) == api.OK {
			return x
		}
	}
}

var someValues = []api.Value{empty, num(0), num(1), num(-3), val.Typed("1.5"), val.Typed("1e18"), val.Str(""), val.Str("x"), val.Str("2"), val.Str("TRUE"), val.Truth(true), val.Truth(false), fail(api.EDiv), fail(api.EValue), fail(api.ERef), fail(api.EName), fail(api.ENum), fail(api.ENA), fail(api.ECycle)}

// anyBook is a right one, with as many formulas among few places as make cycles often, but not always.
func anyBook(r *rand.Rand) api.Book {
	b := wrote()
	b.Sheets = b.Sheets[:1+r.Intn(3)]
	formulas := 1 + r.Intn(9)
	for i := range b.Sheets {
		for row := range 3 {
			for col := range 3 {
				c := api.Cell{Col: col + 1, Row: row + 1}
				switch n := r.Intn(10); {
				case n < formulas:
					c.In = api.Input{Formula: true, F: anyTree(r, 3)}
				case n < 9:
					c.In.V = pick(r, someValues...)
				default:
					c.Style = 1
				}
				if !book.Empty(c) {
					b.Sheets[i].Cells = append(b.Sheets[i].Cells, c)
				}
			}
		}
	}
	for _, name := range []string{"n1", "n2", "n3", "n4"}[:r.Intn(5)] {
		b.Names = append(b.Names, api.Name{Name: name, F: anyTree(r, 2)})
	}
	return ordered(b)
}

// The model itself is held against what can be told by hand.
func TestModel(t *testing.T) {
	b := wrote("A1: 2", "A2: =A1*3", "A3: =SUM(A1:A2)", "A4: =B4", "B4: =A4", "C4: =A4+1", "D4: =IF(FALSE,D4,1)", "E4: =F4", "A5: =n", "B5: =m", "C5: =ROWS(area)", "area := also", "also := A1:A3", "m := IF(FALSE,m,1)", "n := A2+1")
	m := newModel(b)
	s := ""
	for _, p := range m.cells {
		s += val.Show(m.value(p)) + " "
	}
	is(t, s, "2 6 8 #CYCLE! #CYCLE! #CYCLE! #CYCLE! 0 7 #CYCLE! 3 ", "the model's values")
	is(t, m.cycles[at("A4")] && m.cycles[at("D4")] && !m.cycles[at("C4")] && !m.cycles[at("B5")], true, "the model's cycles")
	is(t, fmt.Sprint(modelNeeds(b, 1, tree("n+S!B2:A1+n+also"))), "[{1 1 2 1 2} {0 1 1 2 2} {1 1 1 1 3}]", "the model's Needs")
}
