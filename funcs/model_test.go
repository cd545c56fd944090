package funcs_test

import (
	"fmt"
	"reflect"
	"regexp"
	"strconv"
	"strings"
	"testing"

	"quire/api"
	"quire/dec"
	"quire/funcs"
	"quire/numfmt"
	"quire/val"
)

// is holds what came against what must come.
func is[T comparable](t *testing.T, got, want T, what string, of ...any) {
	t.Helper()
	if got != want {
		t.Errorf("%s %s: %s, not %s", what, brief(of), brief(got), brief(want))
	}
}

// brief is what a failed test tells of x: a great area would tell very much.
func brief(x any) string {
	const most = 600
	s := fmt.Sprintf("%+v", x)
	if len(s) > most {
		s = s[:most] + ".."
	}
	return strconv.QuoteToASCII(s)
}

// Values.

var empty api.Value

func num(c int64, e int) api.Value {
	return api.Value{Kind: api.VNum, N: api.Dec{C: c, E: e}}
}

func whole(n int) api.Value {
	d, _ := dec.Make(int64(n), 0)
	return num(d.C, d.E)
}

func text(s string) api.Value { return api.Value{Kind: api.VText, S: s} }

func truth(b bool) api.Value { return api.Value{Kind: api.VBool, B: b} }

func fail(code int) api.Value { return api.Value{Kind: api.VErr, E: code} }

// value is what a test writes for one: a text is what would be typed.
func value(x any) api.Value {
	switch x := x.(type) {
	case string:
		return val.Typed(x)
	case int:
		return whole(x)
	case bool:
		return truth(x)
	}
	return x.(api.Value)
}

// Arguments.

// one is the argument of one value.
func one(x any) funcs.Arg {
	return funcs.Arg{Cols: 1, Rows: 1, V: []api.Value{value(x)}}
}

// area is one with its first value in B3.
func area(cols, rows int, l ...any) funcs.Arg {
	a := funcs.Arg{Area: true, Cols: cols, Rows: rows, Col: 2, Row: 3}
	for _, x := range l {
		a.V = append(a.V, value(x))
	}
	return a
}

// row and column are areas of all their values.
func row(l ...any) funcs.Arg    { return area(len(l), 1, l...) }
func column(l ...any) funcs.Arg { return area(1, len(l), l...) }

// full is an area with one value everywhere.
func full(cols, rows int, x any) funcs.Arg {
	a := area(cols, rows)
	for range cols * rows {
		a.V = append(a.V, value(x))
	}
	return a
}

// arguments are what a test writes for them: a value stands for the argument of it alone.
func arguments(l []any) (made []funcs.Arg) {
	for _, x := range l {
		if a, is := x.(funcs.Arg); is {
			made = append(made, a)
		} else {
			made = append(made, one(x))
		}
	}
	return made
}

// times is n times one argument.
func times(n int, x any) (l []any) {
	for range n {
		l = append(l, x)
	}
	return l
}

// copied are the arguments once more.
func copied(l []funcs.Arg) (made []funcs.Arg) {
	for _, a := range l {
		a.V = append([]api.Value(nil), a.V...)
		made = append(made, a)
	}
	return made
}

// ask holds what the function answers of the arguments against what must come.
func ask(t *testing.T, want any, name string, l ...any) {
	t.Helper()
	is(t, funcs.Apply(name, arguments(l)), value(want), name, l...)
}

// hold holds what the function answers against the model, and that the arguments stay as they are.
func hold(t *testing.T, name string, l []funcs.Arg) api.Value {
	t.Helper()
	before := copied(l)
	got := funcs.Apply(name, l)
	want := modelApply(name, l)
	if got != want {
		t.Fatalf("%s %s: %s, not %s", name, brief(l), brief(got), brief(want))
	}
	if !val.Right(got) {
		t.Fatalf("%s %s: %s is not right", name, brief(l), brief(got))
	}
	if len(l) > 0 && !reflect.DeepEqual(before, l) {
		t.Fatalf("%s %s: the arguments were changed", name, brief(before))
	}
	return got
}

// The model: the calls by the words alone.

// bounds are the least and the most arguments of each function, as the document has them.
func bounds() map[string][2]int {
	all := map[string][2]int{}
	put := func(least, most int, names string) {
		for _, name := range strings.Fields(names) {
			all[name] = [2]int{least, most}
		}
	}
	put(1, 32, "SUM PRODUCT MIN MAX AVERAGE COUNT COUNTA AND OR XOR CONCAT")
	put(1, 1, "COUNTBLANK ABS SIGN INT NOT ISBLANK ISNUMBER ISTEXT ISLOGICAL ISERROR LEN UPPER LOWER TRIM VALUE ROWS COLUMNS ROW COLUMN")
	put(2, 2, "MOD POWER ROUND IFERROR REPT EXACT TEXT COUNTIF")
	put(2, 3, "IF FIND INDEX MATCH SUMIF")
	put(2, 32, "CHOOSE")
	put(1, 2, "LEFT RIGHT")
	put(3, 3, "MID")
	put(3, 4, "SUBSTITUTE VLOOKUP")
	put(0, 0, "NA TRUE FALSE")
	return all
}

var boundOf = bounds()

// names are those of all functions, in one order.
func names() []string {
	return strings.Fields("SUM PRODUCT MIN MAX AVERAGE COUNT COUNTA COUNTBLANK ABS SIGN INT MOD POWER ROUND IF IFERROR CHOOSE AND OR XOR NOT ISBLANK ISNUMBER ISTEXT ISLOGICAL ISERROR LEN LEFT RIGHT MID UPPER LOWER TRIM CONCAT FIND SUBSTITUTE REPT EXACT VALUE TEXT INDEX MATCH VLOOKUP ROWS COLUMNS ROW COLUMN COUNTIF SUMIF NA TRUE FALSE")
}

// modelRight: an argument is one of the two, or it is not right.
func modelRight(a funcs.Arg) bool {
	for _, v := range a.V {
		if !val.Right(v) {
			return false
		}
	}
	if !a.Area {
		return reflect.DeepEqual(a, funcs.Arg{Cols: 1, Rows: 1, V: a.V}) && len(a.V) == 1
	}
	for cols := 1; cols <= 64; cols++ {
		for rows := 1; rows <= 512; rows++ {
			if a.Cols == cols && a.Rows == rows {
				return cols*rows == len(a.V) && a.Col > 0 && a.Row > 0
			}
		}
	}
	return false
}

func modelApply(name string, l []funcs.Arg) (v api.Value) {
	for _, a := range l {
		if !modelRight(a) {
			return fail(api.EValue)
		}
	}
	if len(l) > 32 {
		return fail(api.EValue)
	}
	b, known := boundOf[name]
	if !known {
		return fail(api.EName)
	}
	if len(l) < b[0] || len(l) > b[1] {
		return fail(api.EValue)
	}
	defer func() {
		if x := recover(); x != nil {
			v = x.(api.Value)
		}
	}()
	return modelAnswer(name, args(l))
}

// args are the arguments; what is taken of them gives up with its error.
type args []funcs.Arg

// good gives up with v, if it is an error.
func good(v api.Value) api.Value {
	if v.Kind == api.VErr {
		panic(v)
	}
	return v
}

// must gives up with an error, if something is not so.
func must(so bool, code int) {
	if !so {
		panic(fail(code))
	}
}

func (l args) scalar(i int) api.Value {
	if len(l[i].V) == 1 {
		return l[i].V[0]
	}
	return fail(api.EValue)
}

func (l args) n(i int) api.Value    { return good(val.Num(l.scalar(i))) }
func (l args) t(i int) string       { return good(val.Text(l.scalar(i))).S }
func (l args) r(i int) []rune       { return []rune(l.t(i)) }
func (l args) b(i int) bool         { return good(val.Bool(l.scalar(i))).B }
func (l args) good(i int) api.Value { return good(l.scalar(i)) }

func (l args) w(i int) int {
	floor, _ := dec.Floor(l.n(i).N)
	n, ok := dec.Int(floor)
	must(ok, api.ENum)
	return n
}

// w1 is the whole number of an argument, or 1.
func (l args) w1(i int) int {
	if i < len(l) {
		return l.w(i)
	}
	return 1
}

// numbers are those of all arguments.
func (l args) numbers() (all []api.Dec) {
	for _, a := range l {
		for _, v := range a.V {
			if !a.Area {
				v = val.Num(v)
			}
			if good(v).Kind == api.VNum {
				all = append(all, v.N)
			}
		}
	}
	return all
}

func reckoned(d api.Dec, e api.Errno) api.Dec { return good(val.Of(d, e)).N }

func modelSum(l []api.Dec) (all api.Dec) {
	for _, d := range l {
		all = reckoned(dec.Add(all, d))
	}
	return all
}

// extreme is the number to which no other one stands as order says; 0 of none.
func extreme(l []api.Dec, order int) (found api.Dec) {
	for _, d := range l {
		beaten := false
		for _, other := range l {
			beaten = beaten || dec.Cmp(other, d) == order
		}
		if !beaten {
			found = d
		}
	}
	return found
}

func modelNumbers(name string, l args) api.Dec {
	all := l.numbers()
	switch name {
	case "SUM":
		return modelSum(all)
	case "PRODUCT":
		d := api.Dec{C: min(1, int64(len(all)))}
		for _, other := range all {
			d = reckoned(dec.Mul(d, other))
		}
		return d
	case "MIN":
		return extreme(all, -1)
	case "MAX":
		return extreme(all, 1)
	}
	must(len(all) > 0, api.EDiv)
	return reckoned(dec.Div(modelSum(all), whole(len(all)).N))
}

func modelCounts(name string, l args) (n int) {
	for _, a := range l {
		for _, v := range a.V {
			so := v.Kind == api.VNum || !a.Area && val.Num(v).Kind == api.VNum
			switch name {
			case "COUNTA":
				so = v != empty
			case "COUNTBLANK":
				so = v == empty || v == text("")
			}
			if so {
				n++
			}
		}
	}
	return n
}

func modelReckoned(name string, l args) (api.Dec, api.Errno) {
	a := l.n(0).N
	switch name {
	case "ABS":
		if dec.Cmp(a, api.Dec{}) < 0 {
			return dec.Sub(api.Dec{}, a)
		}
		return a, api.OK
	case "SIGN":
		return api.Dec{C: int64(dec.Cmp(a, api.Dec{}))}, api.OK
	case "INT":
		return dec.Floor(a)
	case "MOD":
		return dec.Mod(a, l.n(1).N)
	case "POWER":
		return dec.Pow(a, l.n(1).N)
	}
	places := l.w(1)
	must(places >= -18 && places <= 18, api.ENum)
	return dec.Round(a, places)
}

// modelBools: the bools, written one behind the other.
func modelBools(name string, l args) bool {
	all := ""
	for _, a := range l {
		for _, v := range a.V {
			good(v)
			if !a.Area || v.Kind == api.VBool || v.Kind == api.VNum {
				all += map[bool]string{true: "1", false: "0"}[good(val.Bool(v)).B]
			}
		}
	}
	must(all != "", api.EValue)
	switch name {
	case "AND":
		return strings.Trim(all, "1") == ""
	case "OR":
		return strings.Trim(all, "0") != ""
	}
	return len(strings.Split(all, "1"))%2 == 0
}

// modelTexts are the functions that make a text, which may be too long.
func modelTexts(name string, l args) string {
	switch name {
	case "CONCAT":
		all := ""
		for _, a := range l {
			for _, v := range a.V {
				all += good(val.Text(v)).S
			}
		}
		return all
	case "TEXT":
		v, code := l.good(0), l.t(1)
		_, e := numfmt.Parse(code)
		must(e == api.OK, api.EValue)
		return numfmt.Render(code, v)
	}
	s := l.r(0)
	switch name {
	case "LEFT", "RIGHT":
		n := l.w1(1)
		must(n >= 0, api.EValue)
		n = min(n, len(s))
		if name == "LEFT" {
			return string(s[:n])
		}
		return string(s[len(s)-n:])
	case "MID":
		from, n := l.w(1), l.w(2)
		must(from > 0 && n >= 0, api.EValue)
		s = s[min(from-1, len(s)):]
		return string(s[:min(n, len(s))])
	case "UPPER":
		return turnedBy(s, 'a', 'z', -32)
	case "LOWER":
		return turnedBy(s, 'A', 'Z', 32)
	case "TRIM":
		return strings.Join(strings.FieldsFunc(string(s), func(r rune) bool { return r == ' ' }), " ")
	case "REPT":
		n, all := l.w(1), ""
		must(n >= 0, api.EValue)
		for n > 0 && len(s) > 0 && len(all) < 256 {
			all += string(s)
			n--
		}
		return all
	}
	return modelSubstitute(l)
}

func turnedBy(s []rune, first, last rune, by rune) string {
	return strings.Map(func(r rune) rune {
		if r >= first && r <= last {
			return r + by
		}
		return r
	}, string(s))
}

// modelSubstitute: a pattern finds the places.
func modelSubstitute(l args) string {
	s, old, put, which := l.t(0), l.t(1), l.t(2), l.w1(3)
	must(which > 0, api.EValue)
	if old == "" {
		return s
	}
	place := 0
	return regexp.MustCompile(regexp.QuoteMeta(old)).ReplaceAllStringFunc(s, func(found string) string {
		if place++; len(l) == 4 && place != which {
			return found
		}
		return put
	})
}

// modelFind: it is asked at one character after the other.
func modelFind(l args) int {
	sought, s, from := l.t(0), l.r(1), l.w1(2)
	must(from > 0 && from <= len(s)+1, api.EValue)
	for at := from - 1; at <= len(s); at++ {
		if strings.HasPrefix(string(s[at:]), sought) {
			return at + 1
		}
	}
	panic(fail(api.EValue))
}

// alike by the words: the same in what their Kind says, letters' case aside.
func modelLike(a, b api.Value) bool {
	if a.Kind == api.VText {
		a.S, b.S = turnedBy([]rune(a.S), 'A', 'Z', 32), turnedBy([]rune(b.S), 'A', 'Z', 32)
	}
	return a == b && a != empty && a.Kind != api.VErr
}

// at is the value in a column and a row, from 1 on.
func at(a funcs.Arg, col, row int) api.Value { return a.V[(row-1)*a.Cols+col-1] }

func modelAreas(name string, l args) api.Value {
	switch name {
	case "INDEX":
		row := l.w(1)
		col := l.w1(2)
		if len(l) == 2 && l[0].Rows == 1 {
			row, col = col, row
		}
		must(row > 0 && row <= l[0].Rows && col > 0 && col <= l[0].Cols, api.ERef)
		return at(l[0], col, row)
	case "MATCH":
		sought := l.good(0)
		must(len(l) == 2 || l.w(2) == 0, api.EValue)
		must(l[1].Cols == 1 || l[1].Rows == 1, api.EValue)
		for i, v := range l[1].V {
			if modelLike(v, sought) {
				return whole(i + 1)
			}
		}
		return fail(api.ENA)
	case "VLOOKUP":
		sought, col := l.good(0), l.w(2)
		must(len(l) == 3 || !l.b(3), api.EValue)
		must(col > 0, api.EValue)
		must(col <= l[1].Cols, api.ERef)
		for row := 1; row <= l[1].Rows; row++ {
			if modelLike(at(l[1], 1, row), sought) {
				return at(l[1], col, row)
			}
		}
		return fail(api.ENA)
	}
	return modelSuch(name, l)
}

// modelSuch: COUNTIF and SUMIF.
func modelSuch(name string, l args) api.Value {
	sought, n := l.good(1), 0
	var d api.Dec
	of := l[len(l)-1]
	if len(l) == 2 {
		of = l[0]
	}
	must(of.Cols == l[0].Cols && of.Rows == l[0].Rows, api.EValue)
	for i, v := range l[0].V {
		if !modelLike(v, sought) {
			continue
		}
		if n++; name == "SUMIF" && of.V[i].Kind == api.VNum {
			d = reckoned(dec.Add(d, of.V[i].N))
		}
	}
	if name == "COUNTIF" {
		return whole(n)
	}
	return num(d.C, d.E)
}

func modelAnswer(name string, l args) api.Value {
	switch name {
	case "SUM", "PRODUCT", "MIN", "MAX", "AVERAGE":
		return val.Of(modelNumbers(name, l), api.OK)
	case "COUNT", "COUNTA", "COUNTBLANK":
		return whole(modelCounts(name, l))
	case "ABS", "SIGN", "INT", "MOD", "POWER", "ROUND":
		return val.Of(modelReckoned(name, l))
	case "AND", "OR", "XOR":
		return truth(modelBools(name, l))
	case "LEFT", "RIGHT", "MID", "UPPER", "LOWER", "TRIM", "CONCAT", "SUBSTITUTE", "REPT", "TEXT":
		return val.Str(modelTexts(name, l))
	case "INDEX", "MATCH", "VLOOKUP", "COUNTIF", "SUMIF":
		return modelAreas(name, l)
	}
	return modelRest(name, l)
}

func modelRest(name string, l args) api.Value {
	switch name {
	case "NA":
		return fail(api.ENA)
	case "TRUE", "FALSE":
		return truth(name == "TRUE")
	case "IF":
		if l.b(0) {
			return l.scalar(1)
		}
		if len(l) == 2 {
			return truth(false)
		}
		return l.scalar(2)
	case "IFERROR":
		if l.scalar(0).Kind == api.VErr {
			return l.scalar(1)
		}
		return l.scalar(0)
	case "CHOOSE":
		n := l.w(0)
		must(n > 0 && n < len(l), api.EValue)
		return l.scalar(n)
	case "NOT":
		return truth(!l.b(0))
	case "LEN":
		return whole(len(l.r(0)))
	case "EXACT":
		a, b := l.t(0), l.t(1)
		return truth(a == b)
	case "FIND":
		return whole(modelFind(l))
	case "VALUE":
		return val.Num(text(l.t(0)))
	case "ROWS":
		return whole(l[0].Rows)
	case "COLUMNS":
		return whole(l[0].Cols)
	case "ROW", "COLUMN":
		must(l[0].Area, api.EValue)
		return whole(map[string]int{"ROW": l[0].Row, "COLUMN": l[0].Col}[name])
	}
	kind := map[string]int{"ISBLANK": 0, "ISNUMBER": 1, "ISTEXT": 2, "ISLOGICAL": 3, "ISERROR": 4}[name]
	return truth(l.scalar(0).Kind == kind)
}
