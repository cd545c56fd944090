package eval_test

import (
	"fmt"
	"math"
	"math/rand"
	"slices"
	"strings"
	"testing"

	"quire/api"
	"quire/book"
	"quire/dec"
	"quire/eval"
	"quire/expr"
	"quire/funcs"
	"quire/val"
)

// P1701: Formula.

// grid tells of each cell its sheet, column and row as one number; that is how the tests see which cells were asked.
func grid(sheet, col, row int) api.Value { return num(int64(sheet*100000 + col*1000 + row)) }

// asks holds what a formula on a sheet of the book is worth, if grid tells the cells, against what would be typed for it.
func asks(t *testing.T, b api.Book, sheet int, formula, want string) {
	t.Helper()
	is(t, val.Show(eval.Formula(b, sheet, tree(formula), grid)), want, "Formula", sheet, formula, b)
}

func TestFormulaOfEachKind(t *testing.T) {
	b := wrote("tax := 0.2", "one := A1", "more := A1:B2", "sum := SUM(A1:B2)")
	for formula, want := range map[string]string{
		"1": "1", "2.5": "2.5", `"x"`: "x", `""`: "", "TRUE": "TRUE", "FALSE": "FALSE",
		"#REF!": "#REF!",
		"A1":    "1001", "$B$3": "2003", "BL512": "64512", "S!A1": "1001", "T!A1": "101001", "'a b'!C2": "203002",
		"A1:A1": "1001", "$A$1:A1": "1001", "T!B2:B2": "102002",
		"A1:B1": "#VALUE!", "A1:A2": "#VALUE!", "B2:A1": "#VALUE!", "A2:A1": "#VALUE!", "B1:A1": "#VALUE!", "T!A1:B2": "#VALUE!",
		"tax": "0.2", "one": "1001", "more": "#VALUE!", "sum": "6006",
		"-A1": "-1001", "--A1": "1001", "A1%": "10.01", "-tax%": "-0.002",
		"A1+1": "1002", "A1-B1": "-1000", "2*3": "6", "1/4": "0.25", "2^3": "8", "A1&B1": "10012001",
		"1=1": "TRUE", "1<>1": "FALSE", "1<2": "TRUE", "1<=2": "TRUE", "1>2": "FALSE", "1>=2": "FALSE",
		"SUM(1,2)": "3", "TRUE()": "TRUE", "NONE(1)": "#NAME?", "SUM()": "#VALUE!", "ABS(1,2)": "#VALUE!",
	} {
		asks(t, b, 0, formula, want)
	}
}

// References without a sheet are to the formula's own, others to that with just their name.
func TestFormulaSheets(t *testing.T) {
	b := wrote()
	for sheet := range b.Sheets {
		asks(t, b, sheet, "A2", fmt.Sprint(sheet*100000+1002))
		asks(t, b, sheet, "A2:A2", fmt.Sprint(sheet*100000+1002))
		asks(t, b, sheet, "S!A2", "1002")
		asks(t, b, sheet, "T!A2", "101002")
		asks(t, b, sheet, "'a b'!A2:A2", "201002")
		for _, name := range []string{"s", "t", "'A B'", "'a  b'", "'ab'", "None", "Sheet1", "S1", "'S '", "' S'"} {
			name = strings.ReplaceAll(name, "'ab'", "ab")
			for _, cells := range []string{"A1", "A1:A1", "A1:B2", "B2:A1"} {
				asks(t, b, sheet, name+"!"+cells, "#REF!")
			}
		}
	}
}

func TestFormulaNames(t *testing.T) {
	b := wrote("num := 7", "ref := B2", "there := T!B2", "one := B2:B2", "more := A1:B2", "other := ref", "third := other", "call := SUM(A1:B1)", "bad := #REF!", "gone := None!A1", "lost := none", "Num := 8", "neg := -third", "list := more", "text := \"x\"")
	for formula, want := range map[string]string{
		"num": "7", "ref": "2002", "there": "102002", "one": "2002", "more": "#VALUE!", "other": "2002", "third": "2002", "call": "3002", "neg": "-2002", "list": "#VALUE!", "text": "x",
		"bad": "#REF!", "gone": "#REF!", "lost": "#NAME?", "none": "#NAME?",
		"Num": "8", "NUM": "#NAME?", "Ref": "#NAME?", "num_": "#NAME?", "nu": "#NAME?", "numnum": "#NAME?",
		"num+Num": "15", "ref&third": "20022002", "IF(TRUE,num,none)": "7", "IF(FALSE,num,none)": "#NAME?", "IFERROR(lost,num)": "7",
	} {
		asks(t, b, 0, formula, want)
	}
	for sheet := range b.Sheets {
		on := sheet * 100000
		asks(t, b, sheet, "ref", fmt.Sprint(on+2002))
		asks(t, b, sheet, "third", fmt.Sprint(on+2002))
		asks(t, b, sheet, "there", "102002")
		asks(t, b, sheet, "call", fmt.Sprint(2*on+3002))
		asks(t, b, sheet, "SUM(list)", fmt.Sprint(4*on+6006))
	}
}

// A name is circular if its formula leads to it again, though that way be not taken; one that leads to a circular one need not be.
func TestFormulaCircularNames(t *testing.T) {
	b := wrote("a := a", "b := c", "c := d+1", "d := b", "e := IF(FALSE,e,1)", "f := IF(FALSE,a,1)", "g := IFERROR(b,2)", "h := ISERROR(h)", "i := SUM(A1,-j%)", "j := NONE(i)", "k := f+f", "l := none+l", "m := A1:B2", "n := m+n", "o := a")
	for _, name := range strings.Fields("a b c d e h i j l n o") {
		asks(t, b, 0, name, "#CYCLE!")
		asks(t, b, 2, "-"+name, "#CYCLE!")
		asks(t, b, 1, "IFERROR("+name+",5)", "5")
		asks(t, b, 1, "IF(TRUE,5,"+name+")", "5")
		asks(t, b, 0, "ROWS("+name+")", "1")
	}
	for name, want := range map[string]string{"f": "1", "g": "2", "k": "2", "m": "#VALUE!", "SUM(m)": "6006", "ISERROR(o)": "TRUE", "a+none": "#CYCLE!", "none+a": "#NAME?", "A": "#NAME?"} {
		asks(t, b, 0, name, want)
	}
}

// A call has nothing to do with a name that is written like its function.
func TestFormulaOfCallsLikeNames(t *testing.T) {
	b := wrote("SUM := B2:C3", "ABS := ABS(SUM)", "NA := 5")
	is(t, shape(b, 0, "SUM"), "2 2 2 2 ", "an argument's shape", b)
	is(t, shape(b, 0, "SUM(A1)"), "1 1 #VALUE! #VALUE! ", "an argument's shape", b)
	asks(t, b, 0, "SUM(A1)", "1001")
	asks(t, b, 0, "SUM(SUM)", "10010")
	asks(t, b, 0, "ABS(SUM(A1))", "1001")
	asks(t, b, 0, "ABS", "#VALUE!")
	asks(t, b, 0, "NA", "5")
	asks(t, b, 0, "IFERROR(NA(),NA)", "5")
	is(t, rects(b, 0, tree("SUM(A1)")), "S!A1", "Needs of a call")
	is(t, rects(b, 0, tree("SUM(A1)+ABS")), "S!A1 S!B2:C3", "Needs of a call")
	is(t, rects(b, 0, tree("ABS(A1)+NA()")), "S!A1", "Needs of a call")
	cycles(t, wrote("A1: =SUM(B1)", "B1: =ABS(A2)", "SUM := A1", "ABS := A1"), "")
}

// shape tells what funcs was handed for an argument: how many values, and where they stand; a single value stands nowhere.
func shape(b api.Book, sheet int, argument string) (s string) {
	for _, call := range []string{"COLUMNS", "ROWS", "COLUMN", "ROW"} {
		s += val.Show(eval.Formula(b, sheet, tree(call+"("+argument+")"), grid)) + " "
	}
	return s
}

func TestFormulaAreas(t *testing.T) {
	b := wrote("ref := B3", "range := C2:B5", "also := range", "third := also", "there := T!B3", "gone := None!A1:B2", "lost := none", "bad := #REF!", "num := 7", "neg := -ref", "call := SUM(A1:B2)", "loop := pool", "pool := loop", "toloop := loop", "toref := ref")
	single := "1 1 #VALUE! #VALUE! "
	for argument, want := range map[string]string{
		"A1": "1 1 1 1 ", "BL512": "1 1 64 512 ", "T!B3": "1 1 2 3 ", "B3:B3": "1 1 2 3 ",
		"B2:C5": "2 4 2 2 ", "C5:B2": "2 4 2 2 ", "B5:C2": "2 4 2 2 ", "C2:B5": "2 4 2 2 ", "'a b'!$C2:B$5": "2 4 2 2 ", "A1:BL512": "64 512 1 1 ",
		"ref": "1 1 2 3 ", "toref": "1 1 2 3 ", "range": "2 4 2 2 ", "also": "2 4 2 2 ", "third": "2 4 2 2 ", "there": "1 1 2 3 ",
		"None!A1": single, "None!A1:B2": single, "s!A1:B2": single, "gone": single, "lost": single, "none": single, "Ref": single, "#REF!": single, "bad": single, "num": single, "neg": single, "call": single, "loop": single, "toloop": single,
		"1": single, `"x"`: single, "TRUE": single, "-A1": single, "A1%": single, "A1+0": single, "--B2:C3": single, "INDEX(A1:B2,1,1)": single,
	} {
		for sheet := range b.Sheets {
			is(t, shape(b, sheet, argument), want, "an argument's shape", sheet, argument)
		}
	}
	for argument, code := range map[string]int{"None!A1": api.ERef, "None!A1:B2": api.ERef, "s!A1:B2": api.ERef, "gone": api.ERef, "lost": api.EName, "none": api.EName, "#REF!": api.ERef, "bad": api.ERef, "loop": api.ECycle, "toloop": api.ECycle, "A1:B2+1": api.EValue} {
		for _, call := range []string{"SUM(%s)", "SUM(1,%s,NA())", "IF(TRUE,%s)", "INDEX(%s,1)", "CONCAT(\"a\",%s)"} {
			asks(t, b, 1, fmt.Sprintf(call, argument), val.ErrName(code))
		}
	}
}

// An area's values come row by row, of its own sheet.
func TestFormulaAreasValues(t *testing.T) {
	b := wrote("range := C3:B2", "there := 'a b'!B2:C3", "also := there")
	for formula, want := range map[string]string{
		"CONCAT(A1:B2)": "1001200110022002", "CONCAT(B2:A1)": "1001200110022002", "CONCAT(A1,A2:B2,T!A1:A2)": "100110022002101001101002",
		"CONCAT(range)": "2002300220033003", "CONCAT(there)": "202002203002202003203003", "CONCAT(also,1)": "2020022030022020032030031",
		"INDEX(A1:C4,2,3)": "3002", "INDEX(C4:A1,4,1)": "1004", "INDEX(range,1,2)": "3002", "SUM(A1:B2,1)": "6007", "COUNT(A1:BL512)": "32768",
		"VLOOKUP(1002,A1:C3,3)": "3002", "MATCH(1003,A1:A4)": "3", "MATCH(3001,A1:C1)": "3",
	} {
		asks(t, b, 0, formula, want)
	}
	asks(t, b, 1, "CONCAT(A1:B1,S!A1)", "1010011020011001")
	asks(t, b, 1, "CONCAT(range)", "102002103002102003103003")
	asks(t, b, 1, "CONCAT(also)", "202002203002202003203003")
}

// All that val and funcs make of kids' values, errors too, is what the formula is worth: of cells that have each of the values.
func TestFormulaIsOfValAndFuncs(t *testing.T) {
	b := wrote("n := B1")
	for _, one := range someValues {
		at := func(sheet, col, row int) api.Value { return one }
		is(t, eval.Formula(b, 0, tree("A1"), at), one, "Formula of a cell", one)
		is(t, eval.Formula(b, 0, tree("A1:A1"), at), one, "Formula of a range", one)
		is(t, eval.Formula(b, 0, tree("n"), at), one, "Formula of a name", one)
		is(t, eval.Formula(b, 0, tree("-A1"), at), val.Neg(one), "Formula of -", one)
		is(t, eval.Formula(b, 0, tree("n%"), at), val.Pct(one), "Formula of %", one)
		for _, two := range someValues {
			at := func(sheet, col, row int) api.Value { return []api.Value{empty, one, two}[col] }
			for op := api.OAdd; op <= api.OGe; op++ {
				x := api.Expr{Kind: api.XBin, Op: op, Kids: []api.Expr{tree("A1"), tree("n")}}
				is(t, eval.Formula(b, 0, x, at), val.Bin(op, one, two), "Formula of an operator", op, one, two)
			}
			area := funcs.Arg{Area: true, Cols: 2, Rows: 1, Col: 1, Row: 1, V: []api.Value{one, two}}
			n := funcs.Arg{Area: true, Cols: 1, Rows: 1, Col: 2, Row: 1, V: []api.Value{two}}
			negative := funcs.One(val.Neg(one))
			for call, l := range map[string][]funcs.Arg{"SUM(A1:B1)": {area}, "COUNT(A1:B1,n)": {area, n}, "IFERROR(-A1,n)": {negative, n}, "CONCAT(-A1,A1:B1)": {negative, area}, "ISERROR(-A1)": {negative}, "MATCH(n,A1:B1)": {n, area}, "AND(n,-A1)": {n, negative}, "CHOOSE(-A1,n,n)": {negative, n, n}} {
				name, _, _ := strings.Cut(call, "(")
				is(t, eval.Formula(b, 0, tree(call), at), funcs.Apply(name, l), "Formula of a call", call, one, two)
			}
		}
	}
}

// wrongBooks are books of which nothing is told, each by another fault.
func wrongBooks() map[string]api.Book {
	all := map[string]api.Book{"zero": {}}
	put := func(what string, turn func(b *api.Book)) {
		b := wrote("A1: 1", "B1: =A1", "T!A1: =S!B1+n", "n := A1")
		turn(&b)
		all[what] = b
	}
	put("no sheet", func(b *api.Book) { b.Sheets = nil })
	put("a sheet's name", func(b *api.Book) { b.Sheets[2].Name = "a/b" })
	put("a sheet twice", func(b *api.Book) { b.Sheets[1].Name = "s" })
	put("no General", func(b *api.Book) { b.Styles = nil })
	put("a style that is none", func(b *api.Book) { b.Styles[1] = "?" })
	put("cells that do not rise", func(b *api.Book) { slices.Reverse(b.Sheets[0].Cells) })
	put("a cell twice", func(b *api.Book) { b.Sheets[0].Cells[1].Col = 1 })
	put("an empty cell", func(b *api.Book) { b.Sheets[1].Cells[0] = api.Cell{Col: 1, Row: 1} })
	put("a column", func(b *api.Book) { b.Sheets[0].Cells[1].Col = 65 })
	put("a value", func(b *api.Book) { b.Sheets[0].Cells[0].In.V.S = "x" })
	put("a formula", func(b *api.Book) { b.Sheets[0].Cells[1].In.F.Kids = []api.Expr{{}} })
	put("a formula beside a value", func(b *api.Book) { b.Sheets[0].Cells[1].In.V = num(1) })
	put("a name", func(b *api.Book) { b.Names[0].Name = "A1" })
	put("a name's formula", func(b *api.Book) { b.Names[0].F = api.Expr{} })
	put("a name twice", func(b *api.Book) { b.Names = append(b.Names, b.Names[0]) })
	put("names that do not rise", func(b *api.Book) { b.Names = append(b.Names, api.Name{Name: "a", F: tree("1")}) })
	put("too many sheets", func(b *api.Book) {
		for i := range api.MaxSheets {
			b.Sheets = append(b.Sheets, api.Sheet{Name: fmt.Sprint("s", i)})
		}
	})
	put("too many cells", func(b *api.Book) {
		for i := range api.MaxCells {
			b.Sheets[2].Cells = append(b.Sheets[2].Cells, api.Cell{Col: 1 + i%64, Row: 1 + i/64, In: api.Input{V: num(1)}})
		}
	})
	put("too many names", func(b *api.Book) {
		for i := range api.MaxNames {
			b.Names = append(b.Names, api.Name{Name: fmt.Sprintf("n%02d", i), F: tree("1")})
		}
	})
	return all
}

// wrongTrees are formulas that are not right, or not any more at the outermost.
func wrongTrees() []api.Expr {
	deep, wide := tree("A1"), api.Expr{Kind: api.XCall, Name: "SUM"}
	for range api.MaxDepth {
		deep = api.Expr{Kind: api.XNeg, Kids: []api.Expr{deep}}
	}
	for range api.MaxArgs + 1 {
		wide.Kids = append(wide.Kids, tree("A1"))
	}
	long := api.Expr{Kind: api.XCall, Name: "SUM"}
	for range 3 {
		long.Kids = append(long.Kids, api.Expr{Kind: api.XText, V: val.Str(strings.Repeat("x", 200))})
	}
	many := api.Expr{Kind: api.XCall, Name: "SUM"}
	for range 8 {
		many.Kids = append(many.Kids, tree("SUM("+strings.Repeat("1,", 24)+"1)"))
	}
	two := tree("S!A1:B2")
	two.To.Sheet = "T"
	half := tree("S!A1:B2")
	half.To.Sheet = ""
	extra, kids := tree("A1"), tree("1")
	extra.Name, kids.Kids = "n", []api.Expr{tree("1")}
	return []api.Expr{
		{}, {Kind: -1}, {Kind: 12}, {Kind: math.MaxInt}, {Kind: api.XNum}, {Kind: api.XNum, V: num(-1)}, {Kind: api.XNum, V: val.Str("x")}, {Kind: api.XText}, {Kind: api.XBool},
		{Kind: api.XRef}, {Kind: api.XRef, Ref: api.Ref{Col: 65, Row: 1}}, {Kind: api.XRef, Ref: api.Ref{Col: math.MinInt, Row: math.MaxInt}}, {Kind: api.XRef, Ref: api.Ref{Sheet: "a/b", Col: 1, Row: 1}},
		{Kind: api.XRange, Ref: api.Ref{Col: 1, Row: 1}}, {Kind: api.XRange, Ref: api.Ref{Col: 1, Row: 1}, To: api.Ref{Col: 1, Row: 513}}, two, half, extra, kids,
		{Kind: api.XName}, {Kind: api.XName, Name: "A1"}, {Kind: api.XCall}, {Kind: api.XCall, Name: "sum"}, wide, long, many, deep,
		{Kind: api.XNeg}, {Kind: api.XPct}, {Kind: api.XNeg, Kids: []api.Expr{tree("1"), tree("2")}}, {Kind: api.XNeg, Kids: []api.Expr{{}}},
		{Kind: api.XBin, Op: api.OAdd}, {Kind: api.XBin, Op: 13, Kids: []api.Expr{tree("1"), tree("2")}}, {Kind: api.XBin, Op: api.OAdd, Kids: []api.Expr{tree("1")}},
		{Kind: api.XCall, Name: "SUM", Kids: []api.Expr{{Kind: api.XName}}}, {Kind: api.XBad, Name: "x"},
	}
}

// noSheets are numbers that no sheet of the books of wrote has.
var noSheets = []int{-1, 3, 4, 16, math.MinInt, math.MaxInt}

func TestFormulaOfWrong(t *testing.T) {
	never := func(sheet, col, row int) api.Value {
		t.Error("a cell was asked")
		return num(1)
	}
	value := fail(api.EValue)
	for what, b := range wrongBooks() {
		for _, formula := range []string{"1", "A1", "SUM(A1:B2)", "n", "#REF!"} {
			is(t, eval.Formula(b, 0, tree(formula), never), value, "Formula of a wrong book", what, formula)
		}
	}
	b := wrote("A1: 1", "n := A1")
	for _, x := range wrongTrees() {
		if expr.Right(x) == api.OK {
			t.Error("a formula that is right", brief(x))
		}
		is(t, eval.Formula(b, 0, x, never), value, "Formula of a wrong formula", x)
	}
	for _, sheet := range noSheets {
		for _, formula := range []string{"1", "S!A1", "n", "#REF!", "none", "a"} {
			is(t, eval.Formula(b, sheet, tree(formula), never), value, "Formula of no sheet", sheet, formula)
		}
	}
}

// What at tells may be anything: what is no right value counts as EValue, and so does what is not told.
func TestFormulaOfAnyAt(t *testing.T) {
	b := wrote("n := A1")
	wrong := []telling{
		nil,
		func(int, int, int) api.Value { panic("no cell") },
		func(int, int, int) api.Value { panic(nil) },
		func(int, int, int) api.Value { panic(api.ErrArg) },
		func(int, int, int) api.Value { return b.Sheets[9].Cells[0].In.V },
	}
	for _, v := range []api.Value{{Kind: 5}, {Kind: -1}, {S: "x"}, {Kind: api.VNum, S: "x"}, {Kind: api.VNum, N: api.Dec{C: 10}}, {Kind: api.VText, S: "\x00"}, {Kind: api.VText, S: "\xff"}, {Kind: api.VText, S: strings.Repeat("x", 256)}, {Kind: api.VErr}, {Kind: api.VErr, E: 8}, {Kind: api.VBool, E: 1}} {
		wrong = append(wrong, func(int, int, int) api.Value { return v })
	}
	for i, at := range wrong {
		for _, formula := range []string{"A1", "T!A1:A1", "n", "A1+1", "-n", "SUM(A1:B2)", "IF(TRUE,n)", "INDEX(A1:B2,1,1)"} {
			is(t, eval.Formula(b, 0, tree(formula), at), fail(api.EValue), "Formula of an at", i, formula)
		}
		for formula, want := range map[string]string{"1+1": "2", "None!A1": "#REF!", "none": "#NAME?", "A1:B2": "#VALUE!", "ISERROR(A1)": "TRUE", "IFERROR(A1,2)": "2", "COUNTA(A1:B2)": "4", "ROW(B3:A2)": "2"} {
			is(t, val.Show(eval.Formula(b, 0, tree(formula), at)), want, "Formula of an at", i, formula)
		}
	}
}

// at is asked for cells that the formula needs alone, by their places.
func TestFormulaAsks(t *testing.T) {
	b := wrote("n := T!B2", "m := n+C3:D4", "l := C3:D4", "far := BL512")
	r := rand.New(rand.NewSource(17011))
	formulas := []string{"A1", "T!A1:A1", "n+m", "SUM(l,A1)", "SUM(T!B3:A2)", "None!A1", "SUM(None!A1:B2)", "1", "far", "IF(TRUE,A1,B1)", "A1:B2", "none"}
	for range 500 {
		formulas = append(formulas, anyFormula(r, 3))
	}
	for _, formula := range formulas {
		x, _, _ := expr.Parse(formula)
		if expr.Right(x) != api.OK {
			continue
		}
		sheet := r.Intn(3)
		l := modelNeeds(b, sheet, x)
		eval.Formula(b, sheet, x, func(s, col, row int) api.Value {
			p := place{s, col, row}
			if !slices.ContainsFunc(l, func(r eval.Rect) bool { return holds(r, p) }) {
				t.Error("a cell was asked that is not needed", p, formula)
			}
			return num(1)
		})
	}
}

// Any formulas on any books, with any values of the cells, are worth what the model says.
func TestFormulaOfAny(t *testing.T) {
	r := rand.New(rand.NewSource(1701))
	for range 3000 {
		b := anyBook(r)
		m := newModel(b)
		x, sheet, seed := anyTree(r, 4), r.Intn(len(b.Sheets)), r.Intn(1000)
		at := func(sheet, col, row int) api.Value {
			return someValues[(seed+sheet*7+col*3+row*5)%len(someValues)]
		}
		before := memory(x)
		is(t, eval.Formula(b, sheet, x, at), m.formula(sheet, x, at), "Formula", sheet, x, b)
		is(t, memory(x), before, "Formula changed what it was given")
		if t.Failed() {
			t.FailNow()
		}
	}
}

// Names may stand in one another so often that each place of them could not be reckoned by itself.
func TestFormulaOfManyNames(t *testing.T) {
	var doubled, areas, sums []string
	for i := range api.MaxNames - 1 {
		doubled = append(doubled, fmt.Sprintf("n%02d := n%02d+n%02d", i, i+1, i+1))
		areas = append(areas, fmt.Sprintf("n%02d := n%02d", i, i+1))
		sums = append(sums, fmt.Sprintf("n%02d := SUM(A1:BL512,T!A1:BL512,n%02d,n%02d-n%02d)", i, i+1, i+1, i+1))
	}
	asks(t, wrote(append(doubled, "n63 := 0.5")...), 0, "n00", "4611686018427387904")
	asks(t, wrote(append(doubled, "n63 := n00")...), 0, "n00", "#CYCLE!")
	asks(t, wrote(append(areas, "n63 := C4:B3")...), 0, "n00", "#VALUE!")
	asks(t, wrote(append(areas, "n63 := C4:B3")...), 0, "CONCAT(n00)", "2003300320043004")
	asks(t, wrote(append(areas, "n63 := C4:B3")...), 0, "COLUMN(n63)+COLUMN(n01)", "4")
	asks(t, wrote(append(areas, "n63 := n40")...), 0, "SUM(n00)", "#CYCLE!")
	asks(t, wrote(append(areas, "n63 := none")...), 0, "SUM(n00)", "#NAME?")
	one := func(int, int, int) api.Value { return num(1) }
	is(t, eval.Formula(wrote(append(sums, "n63 := 1")...), 0, tree("n00"), one), num(63*65536+1), "Formula of great areas")
}

// Rows of names whose numbers grow beyond all that can be told end too.
func TestFormulaIsOfDec(t *testing.T) {
	big := val.Of(dec.Parse("9223372036854775807"))
	at := func(int, int, int) api.Value { return big }
	is(t, eval.Formula(wrote(), 0, tree("A1*A1"), at), fail(api.ENum), "Formula of what can't be told")
	is(t, eval.Formula(book.New(), 0, tree("1/0"), nil), fail(api.EDiv), "Formula of a division")
}
