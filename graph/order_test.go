package graph_test

import (
	"fmt"
	"math"
	"math/rand"
	"slices"
	"testing"

	"quire/api"
	"quire/cells"
	"quire/graph"
)

// P1802: Dirty, Cycles, Order.

// dirty holds which formulas are, by places.
func dirty(t *testing.T, b api.Book, lines map[string]string) {
	t.Helper()
	g := graph.New(b)
	for l, want := range lines {
		is(t, names(g.Dirty(at(l))), want, "Dirty", l, b)
	}
}

func TestDirty(t *testing.T) {
	dirty(t, wrote("A1: 1", "A2: =A1", "A3: =A2", "A4: =A3+A1", "B1: =B2", "B2: 5", "C1: =Z9", "D1: =1"), map[string]string{
		"": "", "A1": "A2 A3 A4", "A2": "A2 A3 A4", "A3": "A3 A4", "A4": "A4", "B1": "B1", "B2": "B1", "C1": "C1", "Z9": "C1", "Z8": "", "D1": "D1", "A5": "", "BL512": "",
		"A1 A1": "A2 A3 A4", "A4 A4 A3 A4": "A3 A4", "A4 B2": "B1 A4", "B2 A4": "B1 A4", "D1 Z9 B1 A1": "B1 C1 D1 A2 A3 A4", "A5 T!A1 A3": "A3 A4", "T!A1": "", "'a b'!A1": "",
	})
	dirty(t, wrote("A1: =T!B1", "T!B1: ='a b'!C1", "'a b'!C1: =S!D1", "D1: 7", "B2: =n", "T!A1: =n", "C2: =m", "D2: =SUM(k)", "n := A1", "m := IF(FALSE,n,2)", "k := C1:C2"), map[string]string{
		"D1": "A1 B2 C2 D2 T!B1 'a b'!C1", "'a b'!C1": "A1 B2 C2 D2 T!B1 'a b'!C1", "T!B1": "A1 B2 C2 D2 T!B1", "A1": "A1 B2 C2 D2", "T!A1": "T!A1", "C1": "D2", "C2": "C2 D2", "B2": "B2", "T!D1": "", "S!D1 T!A1": "A1 B2 C2 D2 T!A1 T!B1 'a b'!C1",
	})
}

func TestDirtyOfCycles(t *testing.T) {
	dirty(t, wrote("A1: =B1", "B1: =C1", "C1: =B1+D1", "D1: 1", "E1: =E1", "A2: =A1", "B2: =E1+B2", "C2: =D2", "D2: =SUM(C1:E3)"), map[string]string{
		"D1": "A1 B1 C1 A2 C2 D2", "C1": "A1 B1 C1 A2 C2 D2", "B1": "A1 B1 C1 A2 C2 D2", "A1": "A1 A2", "A2": "A2", "E1": "E1 B2 C2 D2", "B2": "B2", "E3": "C2 D2", "D3 A2": "A2 C2 D2", "C2": "C2 D2", "D2": "C2 D2", "E4": "",
	})
}

func TestDirtyOfNoPlaces(t *testing.T) {
	g := graph.New(wrote("A1: =B1", "B1: 1", "T!A1: =SUM(S!A1:BL512,A1:BL512)"))
	for _, l := range [][]place{nil, {}, {{Sheet: -1, Col: 1, Row: 1}}, {{Sheet: 0, Col: 0, Row: 1}, {Sheet: 0, Col: 1, Row: 0}, {}}, {{Sheet: 3, Col: 1, Row: 1}}, {{Sheet: 0, Col: 65, Row: 1}, {Sheet: 0, Col: 1, Row: 513}}, {{Sheet: math.MinInt, Col: math.MinInt, Row: math.MinInt}, {Sheet: math.MaxInt, Col: math.MaxInt, Row: math.MaxInt}}} {
		alike(t, g.Dirty(l), nil, "Dirty of no places", l)
		is(t, names(g.Dirty(append(l, at("B1")...))), "A1 T!A1", "Dirty of no places and one", l)
	}
}

// rowOf is the place of a long row of cells: number i stands in a sheet, a column and a row by it.
func rowOf(i int) string {
	sheet := []string{"S!", "T!", "'a b'!"}[i%3]
	return sheet + cells.Letters(1+i/3%64) + fmt.Sprint(1+i/3/64)
}

// The formulas of long rows come out, whichever way they go.
func TestLongRows(t *testing.T) {
	const n = api.MaxCells
	forward, backward, ring := []string{rowOf(0) + ": 1"}, []string{rowOf(n-1) + ": 1"}, []string{rowOf(0) + ": =" + rowOf(n-1)}
	for i := 1; i < n; i++ {
		forward = append(forward, rowOf(i)+": ="+rowOf(i-1)+"+1")
		backward = append(backward, rowOf(n-1-i)+": ="+rowOf(n-i)+"+1")
		ring = append(ring, rowOf(i)+": =-"+rowOf(i-1))
	}
	var row, back []place
	for i := range n {
		row = append(row, at(rowOf(i))[0])
	}
	back = slices.Clone(row)
	slices.Reverse(back)
	rising := func(l []place) []place {
		l = slices.Clone(l)
		slices.SortFunc(l, func(a, b place) int { return map[bool]int{true: -1, false: 1}[graph.Less(a, b)] })
		return l
	}
	g := graph.New(wrote(forward...))
	for _, i := range []int{0, 1, 2, 1000, n - 2, n - 1} {
		alike(t, g.Dirty(row[i:i+1]), rising(row[max(1, i):]), "Dirty of a long row", i)
	}
	alike(t, g.Order(row), row[1:], "Order of a long row")
	alike(t, g.Order(back), row[1:], "Order of a long row")
	g = graph.New(wrote(backward...))
	for _, i := range []int{0, 1, 2, 1000, n - 2, n - 1} {
		alike(t, g.Dirty(row[i:i+1]), rising(row[:min(i+1, n-1)]), "Dirty of a long row backward", i)
	}
	alike(t, g.Order(row), back[1:], "Order of a long row backward")
	alike(t, g.Order(back), back[1:], "Order of a long row backward")
	g = graph.New(wrote(ring...))
	alike(t, g.Cycles(), rising(row), "Cycles of a long ring")
	alike(t, g.Dirty(row[7:8]), rising(row), "Dirty of a long ring")
	alike(t, g.Order(back), rising(row), "Order of a long ring")
}

// Each formula needs all of all, or all that stands ahead of it, or behind it.
func TestWideRows(t *testing.T) {
	for what, formula := range map[string]string{"all": "SUM(A1:D512)", "ahead": "SUM(A1:D%d)", "behind": "SUM(A%d:D512)"} {
		var lines []string
		var all []place
		for i := range api.MaxCells {
			row := i/4 + 1
			needs := map[string]string{"all": formula, "ahead": fmt.Sprintf(formula, max(1, row-1)), "behind": fmt.Sprintf(formula, row+1)}[what]
			p := place{Col: i%4 + 1, Row: row}
			all = append(all, p)
			lines = append(lines, names([]place{p})+": ="+needs)
		}
		g := graph.New(wrote(lines...))
		rows := slices.Clone(all)
		slices.SortStableFunc(rows, func(a, b place) int { return b.Row - a.Row })
		want := map[string]struct{ cycles, order, dirty []place }{"all": {all, all, all}, "ahead": {all[:4], append(slices.Clone(all[4:]), all[:4]...), all[400:]}, "behind": {nil, rows, all[:401]}}[what]
		want.dirty = slices.Clone(want.dirty)
		if what == "ahead" {
			want.dirty = append([]place{all[400]}, all[404:]...)
		}
		alike(t, g.Cycles(), want.cycles, "Cycles", what)
		alike(t, g.Order(all), want.order, "Order", what)
		alike(t, g.Dirty(all[400:401]), want.dirty, "Dirty", what)
	}
}

// cycles holds on which formulas there is a cycle.
func cycles(t *testing.T, on string, lines ...string) {
	t.Helper()
	b := wrote(lines...)
	is(t, names(graph.New(b).Cycles()), on, "Cycles", b)
	hold(t, rand.New(rand.NewSource(18020)), b)
}

func TestCycles(t *testing.T) {
	cycles(t, "")
	cycles(t, "", "A1: 1", "A2: =A1", "A3: =A2+A1")
	cycles(t, "A1", "A1: =A1")
	cycles(t, "A1", "A1: =A1:A1", "B1: =1")
	cycles(t, "A1 B1", "A1: =B1", "B1: =A1")
	cycles(t, "A1 B1 C1", "A1: =B1", "B1: =C1", "C1: =A1")
	cycles(t, "A1 T!A1 'a b'!A1", "A1: =T!A1", "T!A1: ='a b'!A1", "'a b'!A1: =S!A1", "B1: =A1", "T!B1: =B2")
	cycles(t, "B1 C1", "A1: =B1", "B1: =C1", "C1: =B1+E1", "D1: =A1", "E1: =F1", "F1: 1")
	cycles(t, "A1 B1 D1 E1", "A1: =B1", "B1: =A1", "C1: =A1", "D1: =E1+C1", "E1: =D1")
	cycles(t, "A1 B1 D1", "A1: =B1", "B1: =A1", "C1: =A1+D1", "D1: =D1")
	cycles(t, "A1 B1 C1 D1 E1", "A1: =B1+D1", "B1: =C1", "C1: =A1", "D1: =E1", "E1: =A1")
	cycles(t, "C1 D1 E1", "A1: =B1+C1", "B1: =D1", "C1: =D1", "D1: =E1", "E1: =C1")
	cycles(t, "", "A1: =B1+C1", "B1: =D1", "C1: =D1", "D1: 1")
	cycles(t, "B2", "B2: =SUM(A1:C3)", "A1: 1", "C3: 2", "D4: =B2")
	cycles(t, "A1 B2", "B2: =ROWS(C3:A1)", "A1: =B2", "C3: =D4")
	cycles(t, "", "B2: =SUM(A1:C1,A2,C2,A3:C3)", "A1: 1", "C3: =1")
	cycles(t, "A1", "A1: =n", "B1: =n", "n := A1")
	cycles(t, "A1 T!A1", "A1: =n", "T!A1: =n", "T!B1: =n", "n := m", "m := IF(TRUE,1,A1)")
	cycles(t, "", "A1: =n", "n := n", "B1: =none", "C1: =None!C1", "D1: =s!D1", "E1: =#REF!")
	cycles(t, "A1 E2", "A1: =IF(FALSE,A1,1)", "E2: =NONE(E2)")
}

// order holds in which order formulas come, by places.
func order(t *testing.T, b api.Book, lines map[string]string) {
	t.Helper()
	g := graph.New(b)
	for l, want := range lines {
		is(t, names(g.Order(at(l))), want, "Order", l, b)
	}
	hold(t, rand.New(rand.NewSource(18021)), b)
}

func TestOrder(t *testing.T) {
	order(t, wrote("A1: 1", "A2: =A1", "A3: =SUM(A1:A2)", "B1: =A3", "C1: =1", "C2: x", "T!A1: =S!B1", "T!A2: =1", "D1: =T!A2"), map[string]string{
		"": "", "A1": "", "A1 C2 Z9 BL512 'a b'!A1": "", "A2": "A2", "A2 A2 A2": "A2",
		"A3 A2": "A2 A3", "A2 A3": "A2 A3", "A3 A1 A2 A3 C2 A1": "A2 A3", "A3 A2 B1": "A2 A3 B1", "B1 A2 A3": "A2 A3 B1",
		"B1 A3 C1": "C1 A3 B1", "T!A1 B1": "B1 T!A1", "D1 T!A2": "T!A2 D1", "D1 T!A1": "D1 T!A1", "D1 C1 T!A2 T!A1": "C1 T!A1 T!A2 D1",
		"T!A1 T!A2 D1 C1 B1 A3 A2": "C1 A2 A3 B1 T!A1 T!A2 D1",
	})
}

// Where several could be next, the first in order is: one that waited goes ahead of others as soon as it can.
func TestOrderOfSeveral(t *testing.T) {
	order(t, wrote("A1: =D1", "B1: =C1", "C1: =1", "D1: =1", "E1: =1", "F1: =A1+E1"), map[string]string{
		"A1 B1 C1 D1 E1 F1": "C1 B1 D1 A1 E1 F1", "F1 E1 D1 C1 B1 A1": "C1 B1 D1 A1 E1 F1", "A1 B1 E1 F1": "A1 B1 E1 F1", "F1 A1 C1": "A1 C1 F1", "F1 D1 A1": "D1 A1 F1", "F1 E1 B1": "B1 E1 F1",
	})
	order(t, wrote("A1: =A2", "B1: =A2", "C1: =B1+B2", "A2: =C2", "B2: =C2+A1", "C2: =T!A1", "T!A1: =1", "'a b'!A1: =1"), map[string]string{
		"A1 B1 C1 A2 B2 C2 T!A1 'a b'!A1": "T!A1 C2 A2 A1 B1 B2 C1 'a b'!A1", "C1 B2 B1": "B1 B2 C1", "C1 A2 'a b'!A1 B1": "A2 B1 C1 'a b'!A1",
	})
}

// What formulas need by way of others that were not asked for does not count: they do not need it themselves.
func TestOrderByOthers(t *testing.T) {
	order(t, wrote("A1: =B1", "B1: =C1", "C1: =D1", "D1: 1"), map[string]string{
		"A1 C1": "A1 C1", "C1 A1": "A1 C1", "A1 B1": "B1 A1", "B1 C1": "C1 B1", "A1 B1 C1": "C1 B1 A1",
	})
	order(t, wrote("A1: =n+A2", "B1: =T!A1", "A2: =1", "T!A1: =S!A2", "n := B1"), map[string]string{
		"A1 T!A1": "A1 T!A1", "A1 B1": "B1 A1", "A1 B1 A2": "B1 A2 A1", "A1 B1 T!A1": "T!A1 B1 A1", "B1 A2": "B1 A2",
	})
}

func TestOrderOfCycles(t *testing.T) {
	order(t, wrote("A1: =B1", "B1: =A1", "C1: =B1+D1", "D1: =E1", "E1: =1", "A2: =A2", "B2: =C1+A2", "C2: =D2", "D2: =E2+C1", "E2: =C2", "T!A1: =S!B2"), map[string]string{
		"A1 B1": "A1 B1", "B1 A1 B1": "A1 B1", "C1 A1": "C1 A1", "A1 B1 C1": "C1 A1 B1", "A2 A1 B1": "A1 B1 A2", "C2 C1": "C1 C2", "E2 D2 C2 A1 B2": "B2 A1 C2 D2 E2", "T!A1 A2": "T!A1 A2",
		"T!A1 E2 D2 C2 B2 A2 E1 D1 C1 B1 A1": "E1 D1 C1 B2 T!A1 A1 B1 A2 C2 D2 E2",
	})
}

func TestOrderOfNoPlaces(t *testing.T) {
	g := graph.New(wrote("A1: =B1", "B1: =C1", "C1: =1"))
	for _, l := range [][]place{nil, {}, {{Sheet: -1, Col: 1, Row: 1}, {}, {Sheet: 1, Col: 1, Row: 1}, {Sheet: 0, Col: 65, Row: 1}}, {{Sheet: math.MinInt, Col: math.MinInt, Row: math.MinInt}, {Sheet: math.MaxInt, Col: math.MaxInt, Row: math.MaxInt}}} {
		alike(t, g.Order(l), nil, "Order of no places", l)
		is(t, names(g.Order(append(l, at("A1 B1")...))), "B1 A1", "Order of no places and two", l)
	}
}

func TestLess(t *testing.T) {
	rising := []place{
		{Sheet: math.MinInt, Col: 5, Row: 5}, {Sheet: -1, Col: 9, Row: 9},
		{Sheet: 0, Col: math.MaxInt, Row: math.MinInt}, {Sheet: 0, Col: 7, Row: -1}, {Sheet: 0, Col: math.MinInt, Row: 0}, {Sheet: 0, Col: -2, Row: 0}, {Sheet: 0, Col: -1, Row: 0}, {Sheet: 0, Col: 0, Row: 0}, {Sheet: 0, Col: math.MaxInt, Row: 0},
		{Sheet: 0, Col: 1, Row: 1}, {Sheet: 0, Col: 2, Row: 1}, {Sheet: 0, Col: 10, Row: 1}, {Sheet: 0, Col: 1, Row: 2}, {Sheet: 0, Col: 3, Row: 2}, {Sheet: 0, Col: 0, Row: math.MaxInt},
		{Sheet: 1, Col: 0, Row: 0}, {Sheet: 1, Col: 1, Row: 1}, {Sheet: 2, Col: 1, Row: 1}, {Sheet: 10, Col: 1, Row: 1}, {Sheet: math.MaxInt, Col: -5, Row: -5},
	}
	for i, a := range rising {
		for j, b := range rising {
			is(t, graph.Less(a, b), i < j, "Less", a, b)
		}
	}
}

// Few cells with all ways of needing one another: each of four formulas needs some of them, or the fifth.
func TestAllSmall(t *testing.T) {
	texts := make([]string, 16)
	for needs := range texts {
		texts[needs] = "=E1"
		for i := range 4 {
			if needs>>i&1 == 1 {
				texts[needs] += "+" + cells.Letters(i+1) + "1"
			}
		}
	}
	r := rand.New(rand.NewSource(1802))
	for range 1500 {
		all := r.Intn(1<<16) & (r.Intn(1<<16) | r.Intn(1<<16))
		var lines []string
		for i := range 4 {
			lines = append(lines, cells.Letters(i+1)+"1: "+texts[all>>(4*i)&15])
		}
		b := wrote(lines...)
		g, m := graph.New(b), newModel(b)
		alike(t, g.Cycles(), m.cycles(), "Cycles", b)
		for some := range 1 << 5 {
			var l []place
			for i := range 5 {
				if some>>i&1 == 1 {
					l = append(l, place{Col: i + 1, Row: 1})
				}
			}
			alike(t, g.Order(l), m.order(l), "Order", l, b)
			alike(t, g.Dirty(l), m.dirty(l), "Dirty", l, b)
		}
		if t.Failed() {
			t.FailNow()
		}
	}
}
