package book_test

import (
	"cmp"
	"fmt"
	"math/rand"
	"reflect"
	"regexp"
	"slices"
	"sort"
	"strconv"
	"strings"
	"testing"

	"quire/api"
	"quire/book"
	"quire/expr"
	"quire/lex"
	"quire/numfmt"
	"quire/val"
)

// is holds what came against what must come.
func is[T comparable](t *testing.T, got, want T, what string, of ...any) {
	t.Helper()
	if got != want {
		t.Errorf("%s %s: %s, not %s", what, brief(of), brief(got), brief(want))
	}
}

// brief is what a failed test tells of x: a deep tree would tell very much.
func brief(x any) string {
	const most = 1000
	s := fmt.Sprintf("%+v", x)
	if len(s) > most {
		s = s[:most] + ".."
	}
	return strconv.QuoteToASCII(s)
}

// alike holds what came against what must come, in all that they have; a list without an element may be nil or empty.
func alike(t *testing.T, got, want any, what string, of ...any) {
	t.Helper()
	if !reflect.DeepEqual(plain(got), plain(want)) {
		t.Errorf("%s %s: %s, not %s", what, brief(of), brief(got), brief(want))
	}
}

// stop ends a test that has failed: a test of very many books would tell very much.
func stop(t *testing.T) {
	if t.Failed() {
		t.FailNow()
	}
}

// plain is a copy of x, however deep, whose lists without an element are all nil.
func plain(x any) any {
	made := reflect.New(reflect.TypeOf(x)).Elem()
	copyPlain(made, reflect.ValueOf(x))
	return made.Interface()
}

func copyPlain(to, from reflect.Value) {
	switch from.Kind() {
	case reflect.Slice:
		if from.Len() == 0 {
			return
		}
		to.Set(reflect.MakeSlice(from.Type(), from.Len(), from.Len()))
		for i := range from.Len() {
			copyPlain(to.Index(i), from.Index(i))
		}
	case reflect.Struct:
		for i := range from.NumField() {
			copyPlain(to.Field(i), from.Field(i))
		}
	default:
		to.Set(from)
	}
}

// lists hands out all lists that x has, however deep, the spare room of each with it.
func lists(x reflect.Value, each func(reflect.Value)) {
	switch x.Kind() {
	case reflect.Slice:
		x = x.Slice(0, x.Cap())
		each(x)
		for i := range x.Len() {
			lists(x.Index(i), each)
		}
	case reflect.Struct:
		for i := range x.NumField() {
			lists(x.Field(i), each)
		}
	}
}

// room is the memory of a list.
type room struct{ from, to uintptr }

func rooms(x any) []room {
	var all []room
	lists(reflect.ValueOf(x), func(l reflect.Value) {
		if l.Len() > 0 {
			from := l.Pointer()
			all = append(all, room{from, from + uintptr(l.Len())*l.Type().Elem().Size()})
		}
	})
	return all
}

// apart asks that no list of what came shares memory with another one of it, or with one of what was handed in.
func apart(t *testing.T, what string, came any, in ...any) {
	t.Helper()
	made := rooms(came)
	slices.SortFunc(made, func(a, b room) int { return cmp.Compare(a.from, b.from) })
	for i := 1; i < len(made); i++ {
		if made[i].from < made[i-1].to {
			t.Errorf("%s: two of its lists share memory", what)
			return
		}
	}
	for _, x := range in {
		for _, given := range rooms(x) {
			// Since made's lists are apart, the first that ends behind given's beginning is the only one that must be asked.
			i := sort.Search(len(made), func(i int) bool { return made[i].to > given.from })
			if i < len(made) && made[i].from < given.to {
				t.Errorf("%s: memory is shared with what was handed in", what)
				return
			}
		}
	}
}

// memory tells all that x has, with the spare room of its lists.
func memory(x any) string {
	return string(tell(nil, reflect.ValueOf(x)))
}

// tell puts all that x has behind b, each thing once, so that a deep tree takes no longer than a wide one.
func tell(b []byte, x reflect.Value) []byte {
	switch x.Kind() {
	case reflect.Slice:
		b = fmt.Appendf(b, "[%d %d %t", x.Len(), x.Cap(), x.IsNil())
		x = x.Slice(0, x.Cap())
		for i := range x.Len() {
			b = tell(b, x.Index(i))
		}
		return append(b, ']')
	case reflect.Struct:
		for i := range x.NumField() {
			b = tell(b, x.Field(i))
		}
		return append(b, '.')
	case reflect.Int, reflect.Int64:
		return append(strconv.AppendInt(b, x.Int(), 10), ' ')
	case reflect.Bool:
		return append(strconv.AppendBool(b, x.Bool()), ' ')
	case reflect.String:
		return strconv.AppendQuote(b, x.String())
	}
	panic("a kind that no book has: " + x.Kind().String())
}

// roomy is b with spare room behind each of its lists, in which something stands.
func roomy(b api.Book) api.Book {
	made := reflect.New(reflect.TypeOf(b)).Elem()
	copyRoomy(made, reflect.ValueOf(b))
	return made.Interface().(api.Book)
}

func copyRoomy(to, from reflect.Value) {
	switch from.Kind() {
	case reflect.Slice:
		made := reflect.MakeSlice(from.Type(), from.Len()+2, from.Len()+2)
		for i := range from.Len() {
			copyRoomy(made.Index(i), from.Index(i))
		}
		if from.Len() > 0 {
			copyBare(made.Index(from.Len()), from.Index(0))
		}
		to.Set(made.Slice(0, from.Len()))
	case reflect.Struct:
		for i := range from.NumField() {
			copyRoomy(to.Field(i), from.Field(i))
		}
	default:
		to.Set(from)
	}
}

// copyBare copies all but lists: what stands in spare room has none, so that a deep tree does not stand in there again and again.
func copyBare(to, from reflect.Value) {
	switch from.Kind() {
	case reflect.Slice:
	case reflect.Struct:
		for i := range from.NumField() {
			copyBare(to.Field(i), from.Field(i))
		}
	default:
		to.Set(from)
	}
}

// What inputs are made of.

func num(c int64, e int) api.Value { return api.Value{Kind: api.VNum, N: api.Dec{C: c, E: e}} }
func text(s string) api.Value      { return api.Value{Kind: api.VText, S: s} }
func truth(b bool) api.Value       { return api.Value{Kind: api.VBool, B: b} }
func wrong(code int) api.Value     { return api.Value{Kind: api.VErr, E: code} }
func value(v api.Value) api.Input  { return api.Input{V: v} }
func with(x api.Expr) api.Input    { return api.Input{Formula: true, F: x} }
func formula(s string) api.Input   { return with(tree(s)) }
func cell(col, row int, in api.Input) api.Cell {
	return api.Cell{Col: col, Row: row, In: in}
}

// styled is a cell with a style and nothing else.
func styled(col, row, style int) api.Cell { return api.Cell{Col: col, Row: row, Style: style} }

// tree is the formula of a text.
func tree(s string) api.Expr {
	x, _, fault := expr.Parse(s)
	if fault != api.OK {
		panic(s)
	}
	return x
}

// The model: what a book must be, by the words alone.

const (
	outer     = `[ -&(-)+-.0-9;-@A-Z^-~]` // what a sheet's name may begin and end with; `?` is asked apart
	inner     = `[ -)+-.0-9;-@A-Z^-~]`
	wholeName = `^` + outer + `(` + inner + `{0,29}` + outer + `)?$`
)

var sheetName = regexp.MustCompile(wholeName)

func modelSheetName(s string) bool { return sheetName.MatchString(s) && !strings.Contains(s, "?") }

func modelInput(in api.Input) bool {
	zero := reflect.DeepEqual(plain(in.F), api.Expr{})
	if !in.Formula {
		return zero && val.Right(in.V)
	}
	return reflect.DeepEqual(in.V, api.Value{}) && expr.Right(in.F) == api.OK
}

func modelEmpty(c api.Cell) bool {
	c.Col, c.Row = 0, 0
	return reflect.DeepEqual(plain(c), api.Cell{})
}

// modelCells tells whether all cells may be, each in its place.
func modelCells(b api.Book) bool {
	for _, s := range b.Sheets {
		last := -1
		for _, c := range s.Cells {
			in := c.Col >= 1 && c.Col <= 64 && c.Row >= 1 && c.Row <= 512 && c.Style >= 0 && c.Style < len(b.Styles)
			if !in || !modelInput(c.In) || modelEmpty(c) || c.Row*1000+c.Col <= last {
				return false
			}
			last = c.Row*1000 + c.Col
		}
	}
	return true
}

func modelTwice(b api.Book) bool {
	sheets, names, styles := map[string]int{}, map[string]int{}, map[string]int{}
	for _, s := range b.Sheets {
		sheets[strings.ToUpper(s.Name)]++
	}
	for _, n := range b.Names {
		names[n.Name]++
	}
	for _, code := range b.Styles {
		styles[code]++
	}
	return len(sheets) < len(b.Sheets) || len(names) < len(b.Names) || len(styles) < len(b.Styles)
}

func modelNamed(b api.Book) bool {
	for _, s := range b.Sheets {
		if !modelSheetName(s.Name) {
			return false
		}
	}
	for _, n := range b.Names {
		if !lex.Word(n.Name) {
			return false
		}
	}
	return true
}

func modelRest(b api.Book) bool {
	var names []string
	for _, n := range b.Names {
		names = append(names, n.Name)
		if expr.Right(n.F) != api.OK {
			return false
		}
	}
	for _, code := range b.Styles {
		if _, fault := numfmt.Parse(code); fault != api.OK {
			return false
		}
	}
	return sort.StringsAreSorted(names) && len(b.Styles) > 0 && b.Styles[0] == "General"
}

func modelCount(b api.Book) int {
	count := 0
	for _, s := range b.Sheets {
		count += len(s.Cells)
	}
	return count
}

func modelRight(b api.Book) api.Errno {
	if len(b.Sheets) < 1 || len(b.Sheets) > 16 || modelCount(b) > 2000 || len(b.Names) > 64 || len(b.Styles) > 64 {
		return api.ErrBig
	}
	if !modelNamed(b) {
		return api.ErrName
	}
	if modelTwice(b) {
		return api.ErrTwice
	}
	if !modelCells(b) || !modelRest(b) {
		return api.ErrArg
	}
	return api.OK
}

// modelPut is a sheet's list, made of what stands at each place.
func modelPut(list []api.Cell, c api.Cell) []api.Cell {
	type place struct{ row, col int }
	at := map[place]api.Cell{}
	for _, one := range list {
		at[place{one.Row, one.Col}] = one
	}
	at[place{c.Row, c.Col}] = c
	if modelEmpty(c) {
		delete(at, place{c.Row, c.Col})
	}
	var all []api.Cell
	for _, one := range at {
		all = append(all, one)
	}
	sort.Slice(all, func(i, j int) bool {
		if all[i].Row != all[j].Row {
			return all[i].Row < all[j].Row
		}
		return all[i].Col < all[j].Col
	})
	return all
}

func modelTyped(s string) (api.Input, api.Errno) {
	if s == "=" || !strings.HasPrefix(s, "=") {
		return value(val.Typed(s)), api.OK
	}
	x, _, fault := expr.Parse(s[1:])
	if fault != api.OK {
		return api.Input{}, fault
	}
	if _, fault := expr.Print(x); fault != api.OK {
		return api.Input{}, api.ErrBig
	}
	return with(x), api.OK
}

func modelShow(in api.Input) string {
	if in.Formula {
		s, fault := expr.Print(in.F)
		if fault != api.OK {
			return "="
		}
		return "=" + s
	}
	s := val.Show(in.V)
	if again := val.Typed(s); !reflect.DeepEqual(again, in.V) || s != "=" && strings.HasPrefix(s, "=") {
		return "'" + s
	}
	return s
}

// Books of any kind.

// rich is a right book that has of all kinds, in several sheets.
func rich() api.Book {
	b := api.Book{Styles: []string{"General", "0.00", "0%", `"x"0;(0)`}}
	for _, name := range []string{"Sheet1", "b c", "S3", "it's"} {
		b.Sheets = append(b.Sheets, api.Sheet{Name: name, Cells: []api.Cell{
			cell(1, 1, value(num(125, -2))),
			cell(3, 1, value(text("12"))),
			styled(1, 2, 1),
			{Col: 2, Row: 2, In: formula("SUM('b c'!A1:$B$2,tax,-x%)&\"a\""), Style: 3},
			cell(64, 2, value(truth(true))),
			cell(1, 512, value(text(""))),
			{Col: 64, Row: 512, In: value(wrong(api.ENA)), Style: 2},
		}})
	}
	for _, name := range []string{"Tax", "rate", "tax", "x", "x.y", "z_1"} {
		b.Names = append(b.Names, api.Name{Name: name, F: tree("IF(A1>0,(" + "B2+1.5)*2,S3!$A$1)")})
	}
	return b
}

// full is a right book that has as much as may be of all, with sheets of different lengths.
func full() api.Book {
	b := api.Book{Styles: []string{"General"}}
	for i := range api.MaxSheets {
		b.Sheets = append(b.Sheets, api.Sheet{Name: fmt.Sprint("S", i)})
	}
	for i := range api.MaxCells {
		s := &b.Sheets[min(i/3%40, api.MaxSheets-1)]
		n := len(s.Cells)
		s.Cells = append(s.Cells, cell(1+n%api.MaxCol, 1+n/api.MaxCol, value(num(7, 0))))
	}
	for i := range api.MaxNames {
		b.Names = append(b.Names, api.Name{Name: fmt.Sprintf("n%02d", i), F: tree("1")})
	}
	for i := 1; i < api.MaxStyles; i++ {
		b.Styles = append(b.Styles, fmt.Sprintf(`0"%d"`, i))
	}
	return b
}

func pick[T any](r *rand.Rand, l ...T) T { return l[r.Intn(len(l))] }

var someTexts = []string{"", "a", "12", "-1.5", "1e3", "TRUE", "false", "FALSE", "#N/A", "#REF!", "=", "==", "=1", "= 1", "=x y", "'", "''", "'a", "'=1", "'12", " ", " 1", "ñ", "a\nb", "#", "#X!", "-", "+1", "1 ", "\t", "=\"a\""}

func anyValue(r *rand.Rand) api.Value {
	switch r.Intn(5) {
	case 0:
		return api.Value{}
	case 1:
		v := num(r.Int63()>>r.Intn(63)*pick(r, int64(1), -1), r.Intn(2*api.MaxExp+1)-api.MaxExp)
		for v.N.C != 0 && v.N.C%10 == 0 {
			v.N.C++
		}
		if !val.Right(v) {
			return num(0, 0)
		}
		return v
	case 2:
		return text(pick(r, someTexts...) + pick(r, "", "", pick(r, someTexts...), strings.Repeat("a", 240)))
	case 3:
		return truth(r.Intn(2) == 0)
	}
	return wrong(1 + r.Intn(api.ECycle))
}

var atoms = []string{"1", "0.25", "1E18", `"a""b"`, `""`, "TRUE", "FALSE", "A1", "$B$2", "S3!A1", "'b c'!$C4", "A1:B2", "S!B2:A1", "tax", "x", "#REF!", "NA()", "LOG10(2)"}

// anyFormula is the text of a formula of any shape.
func anyFormula(r *rand.Rand, deep int) string {
	part := func() string { return anyFormula(r, deep-1) }
	if deep == 0 {
		return pick(r, atoms...)
	}
	switch r.Intn(7) {
	case 0:
		return "-" + part()
	case 1:
		return "(" + part() + ")%"
	case 2:
		return "SUM(" + part() + ", " + part() + ")"
	case 3:
		return "(" + part() + ")"
	case 4:
		return pick(r, atoms...)
	}
	return part() + pick(r, "+", " - ", "*", "/", "^", "&", "=", "<>", "<", "<=", ">", ">=") + part()
}

// anyInput is a right one.
func anyInput(r *rand.Rand) api.Input {
	if r.Intn(2) == 0 {
		return value(anyValue(r))
	}
	for {
		if x, _, _ := expr.Parse(anyFormula(r, r.Intn(5))); expr.Right(x) == api.OK {
			return with(x)
		}
	}
}

// anyCell is a right one that is not empty, most often at one of a few places.
func anyCell(r *rand.Rand, styles int) api.Cell {
	c := cell(pick(r, 1, 2, 3, 63, 64), pick(r, 1, 2, 3, 511, 512), anyInput(r))
	if c.Style = r.Intn(styles); modelEmpty(c) {
		c.In = value(text(""))
	}
	return c
}

// anyBook is a right one.
func anyBook(r *rand.Rand) api.Book {
	b := api.Book{Styles: []string{"General", "0", "0.00", "0%"}[:1+r.Intn(4)]}
	for i, name := range []string{"Sheet1", "a", "it's", "b c", "A1"}[:1+r.Intn(5)] {
		b.Sheets = append(b.Sheets, api.Sheet{Name: name})
		for range r.Intn(8) {
			b.Sheets[i].Cells = modelPut(b.Sheets[i].Cells, anyCell(r, len(b.Styles)))
		}
	}
	for _, name := range []string{"B", "a", "tax", "x"}[:r.Intn(5)] {
		for {
			if in := anyInput(r); in.Formula {
				b.Names = append(b.Names, api.Name{Name: name, F: in.F})
				break
			}
		}
	}
	return b
}

func TestModel(t *testing.T) {
	for _, b := range []api.Book{rich(), full(), book.New(), roomy(rich())} {
		is(t, modelRight(b), api.OK, "the model's Right")
	}
	for s, want := range map[string]bool{"a": true, "'": false, "a'": false, "'a": false, "a'b": true, "": false, "a:b": false, "[": false, "]": false, "\\": false, "/": false, "?": false, "*": false, "a*b": false, " ": true, "~": true, "\x7f": false, "\x1f": false, strings.Repeat("a", 31): true, strings.Repeat("a", 32): false} {
		is(t, modelSheetName(s), want, "the model's name of a sheet", s)
	}
}
