package expr_test

import (
	"math/rand"
	"reflect"
	"slices"
	"strings"
	"testing"

	"quire/api"
	"quire/cells"
	"quire/dec"
	"quire/expr"
	"quire/lex"
	"quire/utf"
)

// Nodes, as the chapter has them.

func num(c int64, e int) api.Expr {
	return api.Expr{Kind: api.XNum, V: api.Value{Kind: api.VNum, N: api.Dec{C: c, E: e}}}
}

func text(s string) api.Expr {
	return api.Expr{Kind: api.XText, V: api.Value{Kind: api.VText, S: s}}
}

func truth(b bool) api.Expr {
	return api.Expr{Kind: api.XBool, V: api.Value{Kind: api.VBool, B: b}}
}

// at is the reference that is written so.
func at(s string) api.Ref {
	r, e := cells.Parse(s)
	if e != api.OK {
		panic(s)
	}
	return r
}

func ref(s string) api.Expr { return api.Expr{Kind: api.XRef, Ref: at(s)} }

func area(s string) api.Expr {
	a, b, e := cells.ParseRange(s)
	if e != api.OK {
		panic(s)
	}
	return api.Expr{Kind: api.XRange, Ref: a, To: b}
}

func name(s string) api.Expr { return api.Expr{Kind: api.XName, Name: s} }

func call(s string, kids ...api.Expr) api.Expr {
	return api.Expr{Kind: api.XCall, Name: s, Kids: kids}
}

func neg(x api.Expr) api.Expr { return api.Expr{Kind: api.XNeg, Kids: []api.Expr{x}} }

func pct(x api.Expr) api.Expr { return api.Expr{Kind: api.XPct, Kids: []api.Expr{x}} }

func bin(a api.Expr, sign string, b api.Expr) api.Expr {
	op := slices.Index(signs(), sign) + 1
	if op == 0 {
		panic(sign)
	}
	return api.Expr{Kind: api.XBin, Op: op, Kids: []api.Expr{a, b}}
}

func bad() api.Expr { return api.Expr{Kind: api.XBad} }

// signs are the operators of two sides, from OAdd on.
func signs() []string { return strings.Fields("+ - * / ^ & = <> < <= > >=") }

// levels are those operators, by how close they bind.
func levels() [][]string {
	return [][]string{{"=", "<>", "<", "<=", ">", ">="}, {"&"}, {"+", "-"}, {"*", "/"}, {"^"}}
}

// times is x with a way applied so often.
func times(n int, way func(api.Expr) api.Expr, x api.Expr) api.Expr {
	for range n {
		x = way(x)
	}
	return x
}

// alike is Same, by the words: a list without an element may be nil or empty.
func alike(a, b api.Expr) bool {
	if !slices.EqualFunc(a.Kids, b.Kids, alike) {
		return false
	}
	a.Kids, b.Kids = nil, nil
	return reflect.DeepEqual(a, b)
}

func is[T comparable](t *testing.T, got, want T, what string, of ...any) {
	t.Helper()
	if got != want {
		t.Errorf("%s %+v: %#v, not %#v", what, of, got, want)
	}
}

// becomes asks whether a formula is this one.
func becomes(t *testing.T, got, want api.Expr, what string, of ...any) {
	t.Helper()
	if !alike(got, want) {
		t.Errorf("%s %+v: %+v, not %+v", what, of, got, want)
	}
}

// reads asks whether Parse answers this formula, and nothing beside it.
func reads(t *testing.T, s string, want api.Expr) {
	t.Helper()
	got, place, e := expr.Parse(s)
	if place != 0 || e != api.OK || !alike(got, want) {
		t.Errorf("Parse %q: %+v, %d, %d, not %+v", s, got, place, int(e), want)
	}
}

// refuses asks whether Parse answers this place and error, and no formula.
func refuses(t *testing.T, s string, place int, e api.Errno) {
	t.Helper()
	got, where, fault := expr.Parse(s)
	if !reflect.DeepEqual(got, api.Expr{}) || where != place || fault != e {
		t.Errorf("Parse %q: %+v, %d, %d, not none, %d, %d", s, got, where, int(fault), place, int(e))
	}
}

// writes asks whether Print answers this text, and Right that there is one.
func writes(t *testing.T, x api.Expr, want string) {
	t.Helper()
	got, e := expr.Print(x)
	if got != want || e != api.OK {
		t.Errorf("Print %+v: %q, %d, not %q", x, got, int(e), want)
	}
	is(t, expr.Right(x), api.OK, "Right", x)
}

// wrong asks whether Right and Print answer this error, and Print no text.
func wrong(t *testing.T, x api.Expr, want api.Errno) {
	t.Helper()
	got, e := expr.Print(x)
	if got != "" || e != want {
		t.Errorf("Print %+v: %q, %d, not %d", x, got, int(e), int(want))
	}
	is(t, expr.Right(x), want, "Right", x)
}

// The model of Parse: where a text goes wrong is told by what may follow what, with a stack of what is open; the tree, by cutting at the operator that binds least.

func modelParse(s string) (api.Expr, int, api.Errno) {
	l, place, e := lex.Lex(s)
	if e != api.OK {
		return api.Expr{}, place, e
	}
	if i, ok := firstWrong(l); !ok {
		return api.Expr{}, append(l, lex.Token{At: len(s)})[i].At, api.ErrSyntax
	}
	x := tree(l)
	if e := modelLimits(x); e != api.OK {
		return api.Expr{}, 0, e
	}
	return x, 0, api.OK
}

func modelLimits(x api.Expr) api.Errno {
	switch {
	case modelDepth(x) > 32:
		return api.ErrDeep
	case modelNodes(x) > 200 || modelArgs(x) > 32:
		return api.ErrBig
	}
	return api.OK
}

func modelDepth(x api.Expr) int {
	deep := 0
	for _, k := range x.Kids {
		deep = max(deep, modelDepth(k))
	}
	return deep + 1
}

func modelNodes(x api.Expr) int {
	n := 1
	for _, k := range x.Kids {
		n += modelNodes(k)
	}
	return n
}

func modelArgs(x api.Expr) int {
	n := len(x.Kids)
	for _, k := range x.Kids {
		n = max(n, modelArgs(k))
	}
	return n
}

func isMark(t lex.Token, among ...string) bool {
	return t.Kind == lex.Mark && slices.Contains(among, t.S)
}

// firstWrong is the number of the first token that can't stand where it does.
func firstWrong(l []lex.Token) (int, bool) {
	open := "" // a `c` for a call that is not closed yet, a `g` for a mere parenthesis
	want := true
	padded := slices.Concat(make([]lex.Token, 2), l, make([]lex.Token, 1))
	for i, t := range l {
		beforeLast, last, called := padded[i], padded[i+1], isMark(padded[i+3], "(")
		switch {
		case want && isMark(last, ":") && (t.Kind != lex.Ref || t.R.Sheet != ""):
			return i, false
		case want && (t.Kind == lex.Num || t.Kind == lex.Text || t.Kind == lex.Bad || t.Kind == lex.Ref):
			want = false
		case want && t.Kind == lex.Name && called:
			if !modelCall(t.S) {
				return i, false
			}
		case want && t.Kind == lex.Name:
			want = false
		case want && isMark(t, "-"):
		case want && isMark(t, "(") && last.Kind == lex.Name:
			open += "c"
		case want && isMark(t, "("):
			open += "g"
		case want && isMark(t, ")") && isMark(last, "(") && strings.HasSuffix(open, "c"), !want && isMark(t, ")") && open != "":
			want, open = false, open[:len(open)-1]
		case !want && isMark(t, ",") && strings.HasSuffix(open, "c"), !want && isMark(t, signs()...):
			want = true
		case !want && isMark(t, "%"):
		case !want && isMark(t, ":") && last.Kind == lex.Ref && !isMark(beforeLast, ":"):
			want = true
		default:
			return i, false
		}
	}
	return len(l), !want && open == ""
}

func modelCall(s string) bool {
	if s == "" || len(s) > 20 || s[0] < 'A' || s[0] > 'Z' {
		return false
	}
	for _, c := range []byte(s) {
		if !(c >= 'A' && c <= 'Z' || c >= '0' && c <= '9' || c == '.') {
			return false
		}
	}
	return true
}

// tree is the formula of tokens which firstWrong says are right.
func tree(l []lex.Token) api.Expr {
	if i := loosest(l); i >= 0 {
		return bin(tree(l[:i]), l[i].S, tree(l[i+1:]))
	}
	first, last := l[0], l[len(l)-1]
	switch {
	case isMark(first, "-"):
		return neg(tree(l[1:]))
	case isMark(last, "%"):
		return pct(tree(l[:len(l)-1]))
	case isMark(first, "("):
		return tree(l[1 : len(l)-1])
	case first.Kind == lex.Num:
		return num(first.N.C, first.N.E)
	case first.Kind == lex.Text:
		return text(first.S)
	case first.Kind == lex.Bad:
		return bad()
	case first.Kind == lex.Ref && len(l) == 3:
		last.R.Sheet = first.R.Sheet
		return api.Expr{Kind: api.XRange, Ref: first.R, To: last.R}
	case first.Kind == lex.Ref:
		return api.Expr{Kind: api.XRef, Ref: first.R}
	case len(l) > 1:
		return call(first.S, pieces(l[2:len(l)-1])...)
	case first.S == "TRUE" || first.S == "FALSE":
		return truth(first.S == "TRUE")
	}
	return name(first.S)
}

// loosest is the place of the last of those operators, outside of parentheses, that bind least; -1.
func loosest(l []lex.Token) int {
	nest := 0
	found, foundLevel := -1, len(levels())
	for i, t := range l {
		if isMark(t, "(") {
			nest++
		}
		if isMark(t, ")") {
			nest--
		}
		if nest > 0 || i == 0 || !isMark(t, signs()...) {
			continue
		}
		if b := l[i-1]; b.Kind == lex.Mark && b.S != ")" && b.S != "%" {
			continue // a `-` ahead
		}
		level := slices.IndexFunc(levels(), func(l []string) bool { return slices.Contains(l, t.S) })
		if level <= foundLevel {
			found, foundLevel = i, level
		}
	}
	return found
}

// pieces are the formulas between commas.
func pieces(l []lex.Token) (all []api.Expr) {
	nest, from := 0, 0
	for i, t := range l {
		if isMark(t, "(") {
			nest++
		}
		if isMark(t, ")") {
			nest--
		}
		if nest == 0 && isMark(t, ",") {
			all = append(all, tree(l[from:i]))
			from = i + 1
		}
	}
	if len(l) > 0 {
		all = append(all, tree(l[from:]))
	}
	return all
}

// likeModel asks whether Parse answers what the model does, and tells whether there was no error.
func likeModel(t *testing.T, s string) bool {
	t.Helper()
	want, place, e := modelParse(s)
	if e == api.OK {
		reads(t, s, want)
	} else {
		refuses(t, s, place, e)
	}
	return e == api.OK
}

// The model of Print: of all ways to put parentheses around parts the one with the fewest that is read as x.
func modelPrint(x api.Expr) string {
	var kids []string
	for _, k := range x.Kids {
		kids = append(kids, modelPrint(k))
	}
	switch x.Kind {
	case api.XNum:
		return dec.Print(x.V.N)
	case api.XText:
		return `"` + strings.Join(strings.Split(x.V.S, `"`), `""`) + `"`
	case api.XBool:
		return map[bool]string{true: "TRUE", false: "FALSE"}[x.V.B]
	case api.XRef:
		return cells.Print(x.Ref)
	case api.XRange:
		return cells.PrintRange(x.Ref, x.To)
	case api.XName:
		return x.Name
	case api.XCall:
		return x.Name + "(" + strings.Join(kids, ",") + ")"
	case api.XNeg:
		return readAs(x, "-"+kids[0], "-("+kids[0]+")")
	case api.XPct:
		return readAs(x, kids[0]+"%", "("+kids[0]+")%")
	case api.XBin:
		a, s, b := kids[0], signs()[x.Op-1], kids[1]
		return readAs(x, a+s+b, a+s+"("+b+")", "("+a+")"+s+b, "("+a+")"+s+"("+b+")")
	}
	return "#REF!"
}

// readAs is the first text that is read as x.
func readAs(x api.Expr, all ...string) string {
	for _, s := range all {
		l, _, e := lex.Lex(s)
		if e != api.OK {
			panic(s)
		}
		if _, ok := firstWrong(l); ok && alike(tree(l), x) {
			return s
		}
	}
	panic("no text of it is read as it")
}

// modelRight is Right, of trees whose text is not too long for the model.
func modelRight(x api.Expr) api.Errno {
	if !modelFits(x) {
		return api.ErrArg
	}
	return modelLimits(x)
}

// modelFits tells whether nothing is left of each node when what its kind says is taken off.
func modelFits(x api.Expr) bool {
	for _, k := range x.Kids {
		if !modelFits(k) {
			return false
		}
	}
	left, kids, ok := x, len(x.Kids), true
	left.Kids = nil
	switch x.Kind {
	case 1:
		ok = x.V.Kind == 1 && dec.Right(x.V.N) && x.V.N.C >= 0 && kids == 0
		left.V.Kind, left.V.N = 0, api.Dec{}
	case 2:
		ok = x.V.Kind == 2 && len(x.V.S) <= 255 && utf.Xml(x.V.S) == api.OK && kids == 0
		left.V.Kind, left.V.S = 0, ""
	case 3:
		ok = x.V.Kind == 3 && kids == 0
		left.V.Kind, left.V.B = 0, false
	case 4:
		ok = cells.Right(x.Ref) && kids == 0
		left.Ref = api.Ref{}
	case 5:
		ok = cells.Right(x.Ref) && cells.Right(x.To) && x.Ref.Sheet == x.To.Sheet && kids == 0
		left.Ref, left.To = api.Ref{}, api.Ref{}
	case 6:
		ok = lex.Word(x.Name) && kids == 0
		left.Name = ""
	case 7:
		ok = modelCall(x.Name) && kids <= 32
		left.Name = ""
	case 8, 9:
		ok = kids == 1
	case 10:
		ok = x.Op >= 1 && x.Op <= 12 && kids == 2
		left.Op = 0
	case 11:
		ok = kids == 0
	default:
		return false
	}
	left.Kind = 0
	return ok && reflect.DeepEqual(left, api.Expr{})
}

// all are those that are made of up to so many of these pieces, one behind the other.
func all(most int, pieces ...string) (all []string) {
	all = []string{""}
	last := all
	for range most {
		var longer []string
		for _, s := range last {
			for _, p := range pieces {
				longer = append(longer, s+p)
			}
		}
		all = append(all, longer...)
		last = longer
	}
	return all
}

func oneOf[T any](r *rand.Rand, all ...T) T { return all[r.Intn(len(all))] }

// anyRef is a right one.
func anyRef(r *rand.Rand) api.Ref {
	return api.Ref{Sheet: oneOf(r, "", "", "S", "a b", "it's", "TRUE", "A1"), Col: 1 + r.Intn(64), Row: 1 + r.Intn(512), AbsCol: r.Intn(2) == 0, AbsRow: r.Intn(2) == 0}
}

// anyLeaf is a right formula without Kids.
func anyLeaf(r *rand.Rand) api.Expr {
	switch r.Intn(8) {
	case 0:
		n, _ := dec.Make(r.Int63n(1000), r.Intn(10)-5)
		return num(n.C, n.E)
	case 1:
		return text(oneOf(r, "", "x", `"`, `a"b`, "+", "(", "TRUE", "A1", " ", "\u00f1", "#REF!"))
	case 2:
		return truth(r.Intn(2) == 0)
	case 3:
		return api.Expr{Kind: api.XRef, Ref: anyRef(r)}
	case 4:
		a, b := anyRef(r), anyRef(r)
		b.Sheet = a.Sheet
		return api.Expr{Kind: api.XRange, Ref: a, To: b}
	case 5:
		return name(oneOf(r, "x", "tax", "a.b", "_", "SUM", "E", "true", "R1C1", "A0", "e5"))
	case 6:
		return call(oneOf(r, "PI", "LOG10", "A1", "TRUE", "A.B"))
	}
	return bad()
}

// anyRight is a right formula of so many levels at the most.
func anyRight(r *rand.Rand, deep int) api.Expr {
	if deep <= 1 || r.Intn(6) == 0 {
		return anyLeaf(r)
	}
	switch r.Intn(8) {
	case 0:
		return pct(anyRight(r, deep-1))
	case 1:
		return neg(anyRight(r, deep-1))
	case 2:
		x := call(oneOf(r, "SUM", "IF", "LOG10", "TRUE", "A.B"))
		for range r.Intn(4) {
			x.Kids = append(x.Kids, anyRight(r, deep-1))
		}
		return x
	}
	return bin(anyRight(r, deep-1), oneOf(r, signs()...), anyRight(r, deep-1))
}

// anyTree is a tree that may have anything anywhere.
func anyTree(r *rand.Rand, deep int) api.Expr {
	if r.Intn(3) == 0 {
		return anyRight(r, deep)
	}
	refs := []api.Ref{{}, {}, {Col: 1, Row: 1}, {Sheet: "S", Col: 64, Row: 512, AbsCol: true}, {Sheet: "S", Col: 2, Row: 3}, {Sheet: "T", Col: 2, Row: 3}, {Col: 65, Row: 1}, {Sheet: "S", Col: 1, Row: 0}, {Sheet: "/", Col: 1, Row: 1}, {AbsRow: true}}
	vs := []api.Value{{}, {}, {Kind: api.VNum}, {Kind: api.VNum, N: api.Dec{C: -1}}, {Kind: api.VNum, N: api.Dec{C: 10}}, {Kind: api.VText, S: "x"}, {Kind: api.VText, S: "\x00"}, {Kind: api.VBool, B: true}, {Kind: api.VErr, E: api.EDiv}, {B: true}}
	x := api.Expr{Kind: r.Intn(14) - 1, V: oneOf(r, vs...), Ref: oneOf(r, refs...), To: oneOf(r, refs...), Name: oneOf(r, "", "", "", "x", "SUM", "A1", "+", "TRUE"), Op: oneOf(r, 0, 0, 0, 1, 12, 13, -1)}
	if deep > 1 {
		for range r.Intn(4) {
			x.Kids = append(x.Kids, anyTree(r, deep-1))
		}
	}
	return x
}

// copied is x in new memory, with nothing behind its lists.
func copied(x api.Expr) api.Expr {
	kids := make([]api.Expr, len(x.Kids))
	for i, k := range x.Kids {
		kids[i] = copied(k)
	}
	x.Kids = kids
	return x
}

// roomy is x in new memory, with spare room behind each list, an empty one too, and something in it.
func roomy(x api.Expr) api.Expr {
	kids := make([]api.Expr, 0, len(x.Kids)+2)
	for _, k := range x.Kids {
		kids = append(kids, roomy(k))
	}
	kids[:cap(kids)][len(kids)] = name("spare")
	kids[:cap(kids)][len(kids)+1] = ref("Z9")
	x.Kids = kids
	return x
}

// spared tells whether what roomy put behind the lists is still there.
func spared(x api.Expr) bool {
	room := x.Kids[len(x.Kids):cap(x.Kids)]
	for _, k := range x.Kids {
		if !spared(k) {
			return false
		}
	}
	return len(room) == 2 && alike(room[0], name("spare")) && alike(room[1], ref("Z9"))
}

// scribble writes over all lists of x, and over their spare room.
func scribble(x api.Expr) {
	for _, k := range x.Kids {
		scribble(k)
	}
	kids := x.Kids[:cap(x.Kids)]
	for i := range kids {
		kids[i] = name("scribbled")
	}
}
