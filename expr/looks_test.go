package expr_test

import (
	"math"
	"math/rand"
	"slices"
	"strings"
	"testing"

	"quire/api"
	"quire/dec"
	"quire/expr"
)

// P1205

// TestSame asks of formulas that are unlike in one thing alone.
func TestSame(t *testing.T) {
	var each []api.Expr
	for _, x := range eachKind() {
		each = append(each, x)
	}
	each = append(each, api.Expr{}, call("G"), call("F", num(1, 0), num(1, 0)), call("F", num(2, 0)), text("y"), text(""), num(1, 1), name("y"), name("X"), ref("A2"), ref("B1"), ref("$A1"), ref("A$1"), ref("S!A1"), area("A1:B2"), area("S!A1:B3"), area("S!B2:A1"), area("S!A1:$B2"), bin(num(1, 0), "-", num(1, 0)), bin(num(1, 0), "+", num(2, 0)), bin(num(2, 0), "+", num(1, 0)), neg(neg(num(1, 0))), neg(num(2, 0)), neg(bad()),
		api.Expr{Kind: 99}, api.Expr{V: api.Value{E: 1}}, api.Expr{V: api.Value{B: true}}, api.Expr{V: api.Value{Kind: 1}}, api.Expr{V: api.Value{S: "x"}}, api.Expr{V: api.Value{N: api.Dec{E: 1}}}, api.Expr{Op: 1}, api.Expr{To: api.Ref{Sheet: "S"}}, api.Expr{To: api.Ref{AbsRow: true}}, api.Expr{Ref: api.Ref{AbsRow: true}}, api.Expr{Name: "x"}, api.Expr{Kids: []api.Expr{{}}}, api.Expr{Kids: []api.Expr{{}, {}}}, api.Expr{Kids: []api.Expr{{Kids: []api.Expr{{}}}}}, api.Expr{Kids: []api.Expr{{Op: 1}}})
	for i, a := range each {
		for j, b := range each {
			is(t, expr.Same(a, copied(b)), i == j, "Same", a, b)
			is(t, expr.Same(call("F", name("x"), a), call("F", name("x"), roomy(b))), i == j, "Same", a, b)
			is(t, expr.Same(neg(neg(a)), neg(neg(b))), i == j, "Same", a, b)
			is(t, expr.Same(call("F", a, b), call("F", b, a)), i == j, "Same", a, b)
		}
	}
	is(t, expr.Same(num(1, 1), num(10, 0)), false, "one number in two forms")
	is(t, expr.Same(call("F"), api.Expr{Kind: api.XCall, Name: "F", Kids: []api.Expr{}}), true, "nil and empty lists")
}

func TestSameAnyTree(t *testing.T) {
	r := rand.New(rand.NewSource(1207))
	for range 20000 {
		x := anyTree(r, 4)
		is(t, expr.Same(x, roomy(x)), true, "Same", x)
		y := copied(x)
		at := &y
		for len(at.Kids) > 0 && r.Intn(3) > 0 {
			at = &at.Kids[r.Intn(len(at.Kids))]
		}
		*at = anyTree(r, 3)
		is(t, expr.Same(x, y), alike(x, y), "Same", x, y)
	}
}

func ranges(l ...string) (all []expr.Range) {
	for _, s := range l {
		x := parsed(s)
		if x.Kind == api.XRef {
			x.To = x.Ref
		}
		all = append(all, expr.Range{A: x.Ref, B: x.To})
	}
	return all
}

func TestRanges(t *testing.T) {
	for s, want := range map[string][]string{
		"1": nil, "x": nil, "#REF!": nil, `"A1"`: nil, "A1()": nil, "A1": {"A1"}, "A1:B2": {"A1:B2"}, "B2:A1": {"B2:A1"}, "S!A1": {"S!A1"}, "S!A1:B2": {"S!A1:B2"}, "$A1:B$2": {"$A1:B$2"},
		"A1+B1":                                {"A1", "B1"},
		"B1+A1":                                {"B1", "A1"},
		"A1+A1":                                {"A1", "A1"},
		"(C1+B1)*(A1-D1:E2)":                   {"C1", "B1", "A1", "D1:E2"},
		"A1^B1*C1+D1&E1=F1":                    {"A1", "B1", "C1", "D1", "E1", "F1"},
		"A1=(B1&(C1+(D1*E1^F1)))":              {"A1", "B1", "C1", "D1", "E1", "F1"},
		"-A1%+F(B1,G(C1:D2,-E1),H(),F1)+S!G1%": {"A1", "B1", "C1:D2", "E1", "F1", "S!G1"},
		"F(F(F(A1),B1),C1)&F(D1,F(E1,F(F1)))":  {"A1", "B1", "C1", "D1", "E1", "F1"},
		"IF(x,S!A1:B2,S!A1:B2)":                {"S!A1:B2", "S!A1:B2"},
	} {
		if got := expr.Ranges(parsed(s)); !slices.Equal(got, ranges(want...)) {
			t.Errorf("Ranges %q: %+v, not %+v", s, got, ranges(want...))
		}
	}
	is(t, len(expr.Ranges(api.Expr{})), 0, "Ranges of none")
}

func TestNames(t *testing.T) {
	for s, want := range map[string]string{
		"1": "", "A1": "", "F()": "", "TRUE": "", `"x"`: "", "S!A1": "", "x": "x", "x+y": "x y", "y+x": "y x", "x+x": "x", "x+y+x+y": "x y", "F(x,F(y),-z%)": "x y z", "b*(a+b)^c&a": "b a c", "x+X": "x X", "F+F(F)": "F", "zz+SUM(tax,zz,yy,tax)": "zz tax yy", "F(F(F(a),b),c)&F(d,F(e,F(f)))": "a b c d e f",
	} {
		is(t, strings.Join(expr.Names(parsed(s)), " "), want, "Names", s)
	}
	is(t, len(expr.Names(api.Expr{})), 0, "Names of none")
}

// modelLooks are the ranges and names of a tree, each node ahead of what is in it.
func modelLooks(x api.Expr, ranges *[]expr.Range, names *[]string) {
	switch {
	case x.Kind == api.XRef:
		*ranges = append(*ranges, expr.Range{A: x.Ref, B: x.Ref})
	case x.Kind == api.XRange:
		*ranges = append(*ranges, expr.Range{A: x.Ref, B: x.To})
	case x.Kind == api.XName && !slices.Contains(*names, x.Name):
		*names = append(*names, x.Name)
	}
	for _, k := range x.Kids {
		modelLooks(k, ranges, names)
	}
}

func TestLooksAnyTree(t *testing.T) {
	r := rand.New(rand.NewSource(1208))
	for range 20000 {
		x := roomy(anyTree(r, 1+r.Intn(5)))
		kept := copied(x)
		var wantRanges []expr.Range
		var wantNames []string
		modelLooks(x, &wantRanges, &wantNames)
		for range 2 {
			ranges, names := expr.Ranges(x), expr.Names(x)
			if !slices.Equal(ranges, wantRanges) || !slices.Equal(names, wantNames) {
				t.Fatalf("%+v: %+v, %q, not %+v, %q", x, ranges, names, wantRanges, wantNames)
			}
			clear(ranges[:cap(ranges)])
			clear(names[:cap(names)])
		}
		is(t, expr.Nodes(x), modelNodes(x), "Nodes", x)
		is(t, expr.Depth(x), modelDepth(x), "Depth", x)
		expr.Same(x, kept)
		becomes(t, x, kept, "what was handed in")
		is(t, spared(x), true, "spare room of what was handed in")
	}
}

func TestNodesAndDepth(t *testing.T) {
	one := num(1, 0)
	is(t, expr.Nodes(api.Expr{}), 1, "Nodes of a node that is none")
	is(t, expr.Depth(api.Expr{}), 1, "Depth of a node that is none")
	for s, want := range map[string][2]int{
		"1": {1, 1}, "F()": {1, 1}, "A1:B2": {1, 1}, "#REF!": {1, 1}, "-1": {2, 2}, "--1%": {4, 4}, "((1))": {1, 1}, "1+2": {3, 2}, "1+2+3": {5, 3}, "1+(2+3)": {5, 3}, "(1+2)*(3+4)": {7, 3}, "F(1,2,3)": {4, 2}, "F(1,G(2),3)": {5, 3}, "F(-1,2)": {4, 3}, "F(1,-2)": {4, 3},
	} {
		is(t, expr.Nodes(parsed(s)), want[0], "Nodes", s)
		is(t, expr.Depth(parsed(s)), want[1], "Depth", s)
	}
	for _, n := range []int{1, 31, 32, 33, 199, 200, 201, 1000, 1 << 16} {
		is(t, expr.Nodes(times(n-1, neg, one)), n, "Nodes", n)
		is(t, expr.Depth(times(n-1, neg, one)), n, "Depth", n)
		wide := call("F", slices.Repeat([]api.Expr{one}, n)...)
		is(t, expr.Nodes(wide), n+1, "Nodes", n)
		is(t, expr.Depth(wide), 2, "Depth", n)
	}
	is(t, expr.Depth(api.Expr{Kids: []api.Expr{{}, {Kids: []api.Expr{{Kids: []api.Expr{{}}}}}, {Kids: []api.Expr{{}}}, {}}}), 4, "Depth in the middle")
	twice := func(x api.Expr) api.Expr { return bin(x, "+", x) }
	is(t, expr.Nodes(times(20, twice, one)), 1<<21-1, "Nodes of what is shared")
	is(t, expr.Depth(times(20, twice, one)), 21, "Depth of what is shared")
}

// TestNodesOfFarMore asks of a tree whose lists stand in many places.
func TestNodesOfFarMore(t *testing.T) {
	t.Parallel()
	x := api.Expr{}
	for range 40 {
		x = api.Expr{Kids: []api.Expr{x, x}}
	}
	is(t, expr.Nodes(x), 1<<30, "Nodes of 2^41 - 1")
}

// TestDepthOfFarMore asks of a tree that has no end, since a list stands within itself.
func TestDepthOfFarMore(t *testing.T) {
	t.Parallel()
	endless := make([]api.Expr, 1)
	endless[0].Kids = endless
	is(t, expr.Depth(endless[0]), 1<<30, "Depth without end")
}

// TestLooksDeep asks that a tree may be as deep as any may be.
func TestLooksDeep(t *testing.T) {
	const deep = 1 << 16
	x := times(deep, func(x api.Expr) api.Expr { return call("F", ref("A1"), x, name("n")) }, name("m"))
	is(t, len(expr.Ranges(x)), deep, "Ranges")
	is(t, strings.Join(expr.Names(x), " "), "m n", "Names")
	is(t, expr.Same(x, copied(x)), true, "Same")
	is(t, expr.Same(x, neg(x)), false, "Same")
	is(t, expr.Right(x), api.ErrDeep, "Right")
	var many []api.Expr
	for i := range 1 << 17 {
		many = append(many, name("n"+strings.Repeat("x", i%7)+string(rune('a'+i%11))))
	}
	is(t, len(expr.Names(call("F", many...))), 77, "Names of many")
}

func TestCall(t *testing.T) {
	for _, s := range []string{"A", "Z", "M", "AB", "A1", "A0", "LOG10", "A.", "A.B", "A..", "T.DIST.2T", "TRUE", "FALSE", "ZZ999", strings.Repeat("A", 19), strings.Repeat("A", 20), "A" + strings.Repeat("9", 19), "Z" + strings.Repeat(".", 19)} {
		is(t, expr.Call(s), true, "Call", s)
	}
	for _, s := range []string{"", "a", "z", "Aa", "aA", "1", "1A", ".", ".A", "_", "A_", "_A", "A B", " A", "A ", " ", "$A", "A$", "A!", "A(", "A-", "\u00c4", "A\u00c4", "A\x00", "\xff", "A\xff", "@", "[", "A@", "A[", "A/", "A:", "\uff21", strings.Repeat("A", 21), strings.Repeat("A", 22), strings.Repeat("A", 1<<20), strings.Repeat("A", 20) + "a"} {
		is(t, expr.Call(s), false, "Call", s)
	}
	for b := range 256 {
		c := string([]byte{byte(b)})
		capital := b >= 'A' && b <= 'Z'
		is(t, expr.Call(c), capital, "Call", c)
		is(t, expr.Call("A"+c), capital || b >= '0' && b <= '9' || b == '.', "Call", c)
		is(t, expr.Call("A"+c+"B"), expr.Call("A"+c), "Call", c)
	}
	for _, s := range all(5, "A", "a", "1", ".", "_") {
		is(t, expr.Call(s), modelCall(s), "Call", s)
	}
}

// P1206

func TestParseOfPrint(t *testing.T) {
	r := rand.New(rand.NewSource(1209))
	right := 0
	for range 100000 {
		x := anyRight(r, 1+r.Intn(7))
		s, e := expr.Print(x)
		if e != api.OK {
			continue
		}
		right++
		reads(t, s, x)
	}
	if right < 50000 {
		t.Errorf("only %d of the formulas are right", right)
	}
	for _, x := range []api.Expr{num(math.MaxInt64, 18), num(math.MaxInt64, -18), num(1, -18), num(10, 18), num(0, 0), text(strings.Repeat(`"`, 255)), text("\t\r\n"), name(strings.Repeat("n", 512)), call(strings.Repeat("A", 20)), call("TRUE", truth(true)), times(31, neg, num(1, 0)), times(31, pct, bad()), area("'!'!$A$1:$BL$512"), bush(80)} {
		s, e := expr.Print(x)
		is(t, e, api.OK, "Print", x)
		reads(t, s, x)
	}
}

// TestParseOfPrintOfNumbers asks it at every exponent: one of a number's Decs alone is right, of 0 too.
func TestParseOfPrintOfNumbers(t *testing.T) {
	for _, c := range []int64{0, 1, 2, 10, 70, 100, 1e18, math.MaxInt64} {
		for e := -20; e <= 20; e++ {
			for _, x := range []api.Expr{num(c, e), neg(num(c, e)), pct(num(c, e)), bin(num(1, 0), "+", num(c, e)), call("SUM", num(c, e), num(1, 0))} {
				s, fault := expr.Print(x)
				is(t, expr.Right(x), fault, "Right", c, e)
				is(t, fault == api.OK, dec.Right(num(c, e).V.N), "Print", c, e)
				if fault == api.OK {
					reads(t, s, x)
				}
			}
		}
	}
}

func TestPrintOfParse(t *testing.T) {
	r := rand.New(rand.NewSource(1210))
	parts := strings.Fields(`1 0.50 1E3 007 "x" """" TRUE A1 $B$2:C3 S!A1 'a''b'!C3:D4 x F() SUM(1,x) LOG10(2) #REF! (1+2) (-3) (4%) ((5)) -6 --7 8%%`)
	right := 0
	for range 50000 {
		s := oneOf(r, parts...)
		for range r.Intn(6) {
			s = oneOf(r, "", "(", "-", " ") + s + oneOf(r, "", ")", "%", " ") + oneOf(r, signs()...) + oneOf(r, parts...)
		}
		x, _, e := expr.Parse(s)
		if e != api.OK {
			continue
		}
		right++
		printed, e := expr.Print(x)
		is(t, e, api.OK, "Print of Parse", s)
		reads(t, printed, x)
		again, _ := expr.Print(parsed(printed))
		is(t, again, printed, "Print of Parse of Print", s)
	}
	if right < 10000 {
		t.Errorf("only %d of the texts are right", right)
	}
	x := parsed(chain(30, "+1E18*"))
	is(t, expr.Right(x), api.ErrBig, "a formula that is written longer than it was")
}

func TestShiftThereAndBack(t *testing.T) {
	r := rand.New(rand.NewSource(1211))
	back := 0
	for range 50000 {
		x := anyRight(r, 1+r.Intn(4))
		dc, dr := r.Intn(21)-10, r.Intn(41)-20
		there := expr.Shift(x, dc, dr)
		lost, were := 0, 0
		countBad(there, &lost)
		if countBad(x, &were); lost > were {
			continue
		}
		back++
		becomes(t, expr.Shift(there, -dc, -dr), x, "Shift there and back", dc, dr)
		becomes(t, expr.Shift(x, 0, 0), x, "Shift by nothing")
	}
	if back < 20000 {
		t.Errorf("only %d came back", back)
	}
}

func countBad(x api.Expr, n *int) {
	if x.Kind == api.XBad {
		*n++
	}
	for _, k := range x.Kids {
		countBad(k, n)
	}
}
