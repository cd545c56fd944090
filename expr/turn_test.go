package expr_test

import (
	"math"
	"math/rand"
	"slices"
	"strings"
	"testing"

	"quire/api"
	"quire/cells"
	"quire/expr"
)

// P1204

// parsed is the formula of a text that is right.
func parsed(s string) api.Expr {
	x, _, e := expr.Parse(s)
	if e != api.OK {
		panic(s)
	}
	return x
}

func TestShift(t *testing.T) {
	for _, one := range []struct {
		s      string
		dc, dr int
		want   string
	}{
		{"A1", -1, 0, "#REF!"}, {"A1", 0, -1, "#REF!"}, {"A1", 1, 0, "B1"}, {"A1", 0, 1, "A2"}, {"A1", 63, 511, "BL512"}, {"A1", 64, 0, "#REF!"}, {"A1", 0, 512, "#REF!"}, {"BL512", -63, -511, "A1"}, {"BL512", 1, 0, "#REF!"}, {"BL512", 0, 1, "#REF!"},
		{"$A1", 5, 5, "$A6"}, {"A$1", 5, 5, "F$1"}, {"$A$1", 5, 5, "$A$1"}, {"$A$1", math.MaxInt, math.MinInt, "$A$1"}, {"$A1", -1, 0, "$A1"}, {"$A1", 0, -1, "#REF!"}, {"A$1", -1, 0, "#REF!"}, {"A$1", 0, -1, "A$1"},
		{"S!B2", 1, 1, "S!C3"}, {"'a b'!$B2", 1, -1, "'a b'!$B1"}, {"S!B2", -2, 0, "#REF!"},
		{"B2:C3", 1, 1, "C3:D4"}, {"B2:C3", -1, -1, "A1:B2"}, {"B2:C3", -2, 0, "#REF!"}, {"C3:B2", -2, 0, "#REF!"}, {"B2:BL3", 1, 0, "#REF!"}, {"BL3:B2", 1, 0, "#REF!"}, {"$B2:BL3", 1, 0, "#REF!"}, {"B2:$BL3", 1, 0, "C2:$BL3"}, {"$B2:C$3", 1, 1, "$B3:D$3"}, {"S!A1:B2", 1, 1, "S!B2:C3"}, {"A1:B2", 0, -1, "#REF!"}, {"$A$1:$B$2", -9, 9, "$A$1:$B$2"},
		{"A1", math.MaxInt, 0, "#REF!"}, {"A1", math.MinInt, 0, "#REF!"}, {"A1", 0, math.MaxInt, "#REF!"}, {"A1", 0, math.MinInt, "#REF!"},
		{"S!A1+A1", -1, 0, "#REF!+#REF!"}, {"B1+A1", -1, 0, "A1+#REF!"}, {"SUM(A1:B2,x,-C3%)", 1, 1, "SUM(B2:C3,x,-D4%)"}, {`1+"A1"&TRUE&x&#REF!&A1()`, 1, 1, `1+"A1"&TRUE&x&#REF!&A1()`}, {"(A1+B2)*C3", 0, 0, "(A1+B2)*C3"},
	} {
		got, e := expr.Print(expr.Shift(parsed(one.s), one.dc, one.dr))
		is(t, got, one.want, "Shift", one.s, one.dc, one.dr)
		is(t, e, api.OK, "Print", one.s)
	}
	becomes(t, expr.Shift(ref("A1"), -1, 0), bad(), "all else is zero")
	becomes(t, expr.Shift(area("S!A1:B2"), -1, 0), bad(), "all else is zero")
}

func TestRename(t *testing.T) {
	for _, one := range []struct{ s, sheet, other, want string }{
		{"S!A1+A1", "S", "a b", "'a b'!A1+A1"}, {"S!A1", "T", "U", "S!A1"}, {"S!A1", "s", "U", "S!A1"}, {"S!A1:B2", "S", "T", "T!A1:B2"}, {"S!A1:B2+T!A1:B2+A1:B2", "S", "T", "T!A1:B2+T!A1:B2+A1:B2"}, {"'a b'!$A$1", "a b", "S", "S!$A$1"}, {"'it''s'!A1", "it's", "x", "x!A1"}, {"F(S!A1,G(S!A1:B2))%", "S", "T", "F(T!A1,G(T!A1:B2))%"}, {"S+S()&\"S\"&\"S!A1\"&S!A1", "S", "T", "S+S()&\"S\"&\"S!A1\"&T!A1"}, {"A1+S!A1", "", "T", "A1+S!A1"}, {"A1:B2", "", "T", "A1:B2"}, {"S!A1+S!A1:B2", "S", "", "A1+A1:B2"}, {"#REF!", "S", "T", "#REF!"}, {"S!A1", "S", "S", "S!A1"}, {"S!A1+T!A1", "S", "T", "T!A1+T!A1"},
	} {
		got, e := expr.Print(expr.Rename(parsed(one.s), one.sheet, one.other))
		is(t, got, one.want, "Rename", one.s, one.sheet, one.other)
		is(t, e, api.OK, "Print", one.s)
	}
	x := expr.Rename(ref("S!A1"), "S", "no/name")
	is(t, x.Ref, api.Ref{Sheet: "no/name", Col: 1, Row: 1}, "Rename to what is no sheet's name")
	long := strings.Repeat("s", 1000)
	is(t, expr.Rename(expr.Rename(area("S!A1:B2"), "S", long), long, "S").To, at("S!B2"), "Rename from what is no sheet's name")
}

func TestDrop(t *testing.T) {
	for _, one := range []struct{ s, sheet, want string }{
		{"S!A1", "S", "#REF!"}, {"S!A1+A1", "S", "#REF!+A1"}, {"S!A1:B2", "S", "#REF!"}, {"SUM(S!A1:B2,T!A1,S!$A$1)", "S", "SUM(#REF!,T!A1,#REF!)"}, {"S!A1", "s", "S!A1"}, {"S!A1", "T", "S!A1"}, {"'a b'!A1%", "a b", "#REF!%"}, {"A1+A1:B2+S!A1", "", "A1+A1:B2+S!A1"}, {"S+S()&\"S\"&\"S!A1\"", "S", "S+S()&\"S\"&\"S!A1\""}, {"#REF!", "S", "#REF!"}, {"-S!A1^2", "S", "-#REF!^2"},
	} {
		got, e := expr.Print(expr.Drop(parsed(one.s), one.sheet))
		is(t, got, one.want, "Drop", one.s, one.sheet)
		is(t, e, api.OK, "Print", one.s)
	}
	becomes(t, expr.Drop(ref("S!$A$1"), "S"), bad(), "all else is zero")
	becomes(t, expr.Drop(area("S!A1:B2"), "S"), bad(), "all else is zero")
}

// modelTurn is x with each reference of it turned, and each range's both; nil stands for what can't be.
func modelTurn(x api.Expr, way func(api.Ref) *api.Ref) api.Expr {
	for _, r := range modelRefs(&x) {
		turned := way(*r)
		if turned == nil {
			return bad()
		}
		*r = *turned
	}
	kids := x.Kids
	x.Kids = nil
	for _, k := range kids {
		x.Kids = append(x.Kids, modelTurn(k, way))
	}
	return x
}

// modelRefs are the references that a node is made of.
func modelRefs(x *api.Expr) []*api.Ref {
	switch x.Kind {
	case api.XRef:
		return []*api.Ref{&x.Ref}
	case api.XRange:
		return []*api.Ref{&x.Ref, &x.To}
	}
	return nil
}

// TestTurnAnyTree asks of trees that need not be right, and that what was handed in is left as it was, its spare room too, and shares nothing with the answer.
func TestTurnAnyTree(t *testing.T) {
	r := rand.New(rand.NewSource(1206))
	for range 20000 {
		x := roomy(anyTree(r, 1+r.Intn(4)))
		kept := copied(x)
		dc, dr := oneOf(r, 0, 1, -1, 63, math.MaxInt), oneOf(r, 0, 0, 1, -1, 500, math.MinInt)
		sheet, other := oneOf(r, "", "S", "T", "a b", "/"), oneOf(r, "", "S", "U", "it's")
		for _, one := range []struct {
			got  func() api.Expr
			want func(api.Ref) *api.Ref
		}{
			{func() api.Expr { return expr.Shift(x, dc, dr) }, func(r api.Ref) *api.Ref {
				if to, ok := cells.Shift(r, dc, dr); ok {
					return &to
				}
				return nil
			}},
			{func() api.Expr { return expr.Rename(x, sheet, other) }, func(r api.Ref) *api.Ref {
				if r.Sheet == sheet && sheet != "" {
					r.Sheet = other
				}
				return &r
			}},
			{func() api.Expr { return expr.Drop(x, sheet) }, func(r api.Ref) *api.Ref {
				if r.Sheet == sheet && sheet != "" {
					return nil
				}
				return &r
			}},
		} {
			want := modelTurn(kept, one.want)
			got := one.got()
			becomes(t, got, want, "turned", kept, dc, dr, sheet, other)
			scribble(got)
			becomes(t, x, kept, "what was handed in")
			is(t, spared(x), true, "spare room of what was handed in")
			got = one.got()
			scribble(x)
			becomes(t, got, want, "turned, and what was handed in written over")
			x = roomy(kept)
		}
	}
}

// TestTurnWhole asks that every answer is new memory, where nothing changes too.
func TestTurnWhole(t *testing.T) {
	x := parsed("F(1,G(2,A1),-x)")
	for _, way := range []func(api.Expr) api.Expr{
		func(x api.Expr) api.Expr { return expr.Shift(x, 0, 0) },
		func(x api.Expr) api.Expr { return expr.Rename(x, "", "T") },
		func(x api.Expr) api.Expr { return expr.Rename(x, "no", "none") },
		func(x api.Expr) api.Expr { return expr.Drop(x, "") },
		func(x api.Expr) api.Expr { return expr.Drop(x, "no") },
	} {
		becomes(t, way(x), x, "nothing changes")
		scribble(way(x))
		becomes(t, x, parsed("F(1,G(2,A1),-x)"), "what was handed in")
	}
}

func TestTurnDeep(t *testing.T) {
	const deep = 1 << 16
	x := times(deep, neg, ref("S!B2"))
	for _, one := range []struct {
		got, leaf api.Expr
	}{{expr.Shift(x, -1, 1), ref("S!A3")}, {expr.Rename(x, "S", "T"), ref("T!B2")}, {expr.Drop(x, "S"), bad()}} {
		is(t, expr.Depth(one.got), deep+1, "Depth")
		is(t, expr.Same(one.got, times(deep, neg, one.leaf)), true, "Same")
	}
	wide := call("F", slices.Repeat([]api.Expr{ref("S!B2")}, 1<<16)...)
	is(t, expr.Same(expr.Drop(wide, "S"), call("F", slices.Repeat([]api.Expr{bad()}, 1<<16)...)), true, "Drop")
}
