package val_test

import (
	"bytes"
	"math"
	"math/big"
	"math/rand"
	"regexp"
	"strings"
	"testing"

	"quire/api"
	"quire/dec"
	"quire/val"
)

const (
	least    = math.MinInt64
	greatest = math.MaxInt64
)

// Values, right or not.

var empty api.Value

func num(c int64, e int) api.Value {
	return api.Value{Kind: api.VNum, N: api.Dec{C: c, E: e}}
}

func text(s string) api.Value { return api.Value{Kind: api.VText, S: s} }

func truth(b bool) api.Value { return api.Value{Kind: api.VBool, B: b} }

func fail(code int) api.Value { return api.Value{Kind: api.VErr, E: code} }

// names are the errors' names as the words have them, in the order of their codes.
var names = []string{"#DIV/0!", "#VALUE!", "#REF!", "#NAME?", "#NUM!", "#N/A", "#CYCLE!"}

// is holds what came against what must come.
func is[T comparable](t *testing.T, got, want T, what string, of ...any) {
	t.Helper()
	if got != want {
		t.Errorf("%s %#v: %#v, not %#v", what, of, got, want)
	}
}

// long is a text of n bytes.
func long(n int) string { return strings.Repeat("a", n) }

// Texts that XML may have, and those that it may not.
var (
	fine  = []string{"", "a", " ", "\t\n\r", "\x7f", "ñ", "你", "\ufffd", "\U0010ffff", "\U0001fffe", "'", "=1", "#N/B"}
	never = []string{"\x00", "\x08", "\x0b", "\x1f", "\xff", "\x80", "\xc0\x80", "\xed\xa0\x80", "\xf4\x90\x80\x80", "\xe4\xbd", "\ufffe", "\uffff"}
)

// Numbers, right and not.
var (
	rightDecs = []api.Dec{{}, {C: 1}, {C: -1}, {C: 2}, {C: 5, E: -1}, {C: -5, E: -1}, {C: 1, E: 18}, {C: -1, E: 18}, {C: 10, E: 18}, {C: 1, E: -18}, {C: -1, E: -18}, {C: greatest}, {C: least}, {C: greatest, E: 18}, {C: least, E: 18}, {C: greatest, E: -18}, {C: least, E: -18}, {C: 15, E: -1}, {C: 64}, {C: -64}, {C: 3}}
	wrongDecs = []api.Dec{{E: 1}, {E: -1}, {E: 18}, {E: -18}, {E: 19}, {C: 10}, {C: -10}, {C: 100, E: -2}, {C: 10, E: 17}, {C: 1, E: 19}, {C: 1, E: -19}, {C: 1, E: math.MaxInt}, {C: 1, E: math.MinInt}, {E: math.MaxInt}, {E: math.MinInt}}
)

// rightValues are right ones at the edges.
func rightValues() []api.Value {
	all := []api.Value{empty, truth(false), truth(true)}
	for _, d := range rightDecs {
		all = append(all, num(d.C, d.E))
	}
	for code := range names {
		all = append(all, fail(code+1))
	}
	for _, s := range append([]string{long(255), strings.Repeat("你", 85), "0", "1", "-1.5", "1e3", "1e400", " 2 ", "2 3", "TRUE", "true", "tRuE", "FALSE", "false", " TRUE", "b", "A", "B", "ab", "aB", "[", "_", "#N/A"}, fine...) {
		all = append(all, text(s))
	}
	return all
}

// wrongValues are not right, each by one thing alone.
func wrongValues() []api.Value {
	all := []api.Value{fail(0), fail(-1), fail(8), fail(math.MaxInt), fail(math.MinInt), text(long(256)), text(strings.Repeat("你", 86)), text(long(100000))}
	for _, d := range wrongDecs {
		all = append(all, num(d.C, d.E))
	}
	for _, s := range never {
		all = append(all, text(s), text("a"+s), text(s+"a"))
	}
	for _, kind := range []int{-1, 5, 6, math.MaxInt, math.MinInt} {
		all = append(all, api.Value{Kind: kind}, api.Value{Kind: kind, N: api.Dec{C: 1}}, api.Value{Kind: kind, S: "a"}, api.Value{Kind: kind, B: true}, api.Value{Kind: kind, E: 1})
	}
	for _, v := range []api.Value{empty, num(0, 0), num(1, 0), text(""), text("a"), truth(false), truth(true), fail(1), fail(2)} {
		all = append(all, foreign(v)...)
	}
	return all
}

// foreign are values of v's Kind with one field that it does not say.
func foreign(v api.Value) (all []api.Value) {
	if v.Kind != api.VNum {
		c, e := v, v
		c.N.C, e.N.E = 1, 1
		all = append(all, c, e)
	}
	if v.Kind != api.VText {
		s := v
		s.S = "a"
		all = append(all, s)
	}
	if v.Kind != api.VBool {
		b := v
		b.B = true
		all = append(all, b)
	}
	if v.Kind != api.VErr {
		e, below := v, v
		e.E, below.E = 1, -1
		all = append(all, e, below)
	}
	return all
}

// anyText is one that a value may have, often a number's, or one of few letters.
func anyText(r *rand.Rand) string {
	signs := []string{"a", "A", "b", "B", " ", "0", "1", "2", ".", "-", "e", "E", "'", "ñ", "TRUE", "False", "#N/A"}
	switch r.Intn(4) {
	case 0:
		return dec.Print(anyDec(r))
	case 1:
		return fine[r.Intn(len(fine))]
	case 2:
		return strings.Repeat(signs[r.Intn(13)], r.Intn(256))
	}
	var s string
	for range r.Intn(5) {
		s += signs[r.Intn(len(signs))]
	}
	return s
}

// anyDec is a right one.
func anyDec(r *rand.Rand) api.Dec {
	if r.Intn(3) == 0 {
		return rightDecs[r.Intn(len(rightDecs))]
	}
	d, _ := dec.Make(int64(r.Uint64())>>r.Intn(64), r.Intn(2*api.MaxExp+1)-api.MaxExp)
	return d
}

// anyValue is a right one.
func anyValue(r *rand.Rand) api.Value {
	switch r.Intn(9) {
	case 0:
		return empty
	case 1:
		return fail(1 + r.Intn(7))
	case 2:
		return truth(r.Intn(2) > 0)
	case 3, 4, 5:
		return text(anyText(r))
	}
	d := anyDec(r)
	return num(d.C, d.E)
}

// The model: the calls by the words alone.

// modelTaken is v as all calls but Right take it: by what v would be if it had nothing but what its Kind says.
func modelTaken(v api.Value) api.Value {
	rightOne := false
	switch v.Kind {
	case 0:
		rightOne = v == empty
	case 1:
		rightOne = v == num(v.N.C, v.N.E) && dec.Right(v.N)
	case 2:
		rightOne = v == text(v.S) && len(v.S) < 256 && modelXml(v.S)
	case 3:
		rightOne = v == truth(v.B)
	case 4:
		rightOne = v == fail(v.E) && v.E > 0 && v.E < 8
	}
	if rightOne {
		return v
	}
	return fail(api.EValue)
}

var xmlText = regexp.MustCompile("^[\t\n\r\x20-\U0000fffd\U00010000-\U0010ffff]*$")

// modelXml: what bytes of no character become is not what they were.
func modelXml(s string) bool { return string([]rune(s)) == s && xmlText.MatchString(s) }

var blanks = regexp.MustCompile("(?s)^ *(.*?) *$")

func modelNum(v api.Value) api.Value {
	v = modelTaken(v)
	switch v {
	case empty, truth(false):
		return num(0, 0)
	case truth(true):
		return num(1, 0)
	}
	if v.Kind != api.VText {
		return v
	}
	d, e := dec.Parse(blanks.FindStringSubmatch(v.S)[1])
	switch e {
	case api.OK:
		return num(d.C, d.E)
	case api.ErrNum:
		return fail(api.ENum)
	}
	return fail(api.EValue)
}

func modelText(v api.Value) api.Value {
	v = modelTaken(v)
	switch v {
	case empty:
		return text("")
	case truth(false):
		return text("FALSE")
	case truth(true):
		return text("TRUE")
	}
	if v.Kind == api.VNum {
		return text(dec.Print(v.N))
	}
	return v
}

var (
	anyTrue  = regexp.MustCompile("^[Tt][Rr][Uu][Ee]$")
	anyFalse = regexp.MustCompile("^[Ff][Aa][Ll][Ss][Ee]$")
)

func modelBool(v api.Value) api.Value {
	v = modelTaken(v)
	switch {
	case v.Kind == api.VErr || v.Kind == api.VBool:
		return v
	case v.Kind == api.VNum:
		return truth(v.N.C != 0)
	case v.Kind == api.VText && anyTrue.MatchString(v.S):
		return truth(true)
	case v.Kind == api.VText && anyFalse.MatchString(v.S), v == empty:
		return truth(false)
	}
	return fail(api.EValue)
}

// place is where a value stands among all: ahead of others by its rank, in one rank by its number, then by its bytes.
type place struct {
	rank  int
	n     *big.Rat
	bytes []byte
}

func placeOf(v api.Value) place {
	p := place{rank: v.Kind, n: new(big.Rat)}
	switch v.Kind {
	case api.VNum:
		p.n = rat(v.N)
	case api.VText:
		for _, b := range []byte(v.S) {
			if b >= 'A' && b <= 'Z' {
				b += 32
			}
			p.bytes = append(p.bytes, b)
		}
	case api.VBool:
		if v.B {
			p.n.SetInt64(1)
		}
	}
	return p
}

func rat(d api.Dec) *big.Rat {
	r := new(big.Rat).SetInt64(d.C)
	for range max(d.E, -d.E) {
		if d.E > 0 {
			r.Mul(r, big.NewRat(10, 1))
		} else {
			r.Mul(r, big.NewRat(1, 10))
		}
	}
	return r
}

// nothing is what empty is beside one of a Kind.
var nothing = map[int]api.Value{api.VEmpty: empty, api.VNum: num(0, 0), api.VText: text(""), api.VBool: truth(false)}

func modelCmp(a, b api.Value) int {
	a, b = modelTaken(a), modelTaken(b)
	if a.Kind == api.VErr || b.Kind == api.VErr {
		return 0
	}
	if a == empty {
		a = nothing[b.Kind]
	} else if b == empty {
		b = nothing[a.Kind]
	}
	p, q := placeOf(a), placeOf(b)
	if p.rank != q.rank {
		return big.NewInt(int64(p.rank)).Cmp(big.NewInt(int64(q.rank)))
	}
	if order := p.n.Cmp(q.n); order != 0 {
		return order
	}
	return bytes.Compare(p.bytes, q.bytes)
}

// modelOf is what dec answered, as a value.
func modelOf(d api.Dec, e api.Errno) api.Value {
	switch e {
	case api.OK:
		return num(d.C, d.E)
	case api.ErrDiv:
		return fail(api.EDiv)
	}
	return fail(api.ENum)
}

var ways = map[int]func(a, b api.Dec) (api.Dec, api.Errno){1: dec.Add, 2: dec.Sub, 3: dec.Mul, 4: dec.Div, 5: dec.Pow}

// orders says of which of the orders -1, 0, 1 a comparison is so.
var orders = map[int][3]bool{7: {false, true, false}, 8: {true, false, true}, 9: {true, false, false}, 10: {true, true, false}, 11: {false, false, true}, 12: {false, true, true}}

func modelBin(op int, a, b api.Value) api.Value {
	a, b = modelTaken(a), modelTaken(b)
	if a.Kind == api.VErr {
		return a
	}
	if b.Kind == api.VErr {
		return b
	}
	if way := ways[op]; way != nil {
		a, b = modelNum(a), modelNum(b)
		if a.Kind == api.VErr {
			return a
		}
		if b.Kind == api.VErr {
			return b
		}
		return modelOf(way(a.N, b.N))
	}
	if op == 6 {
		return modelTaken(text(modelText(a).S + modelText(b).S))
	}
	if order, is := orders[op]; is {
		return truth(order[1+modelCmp(a, b)])
	}
	return fail(api.EValue)
}

func modelNeg(a api.Value) api.Value {
	if a = modelNum(a); a.Kind == api.VErr {
		return a
	}
	return modelOf(dec.Neg(a.N))
}

func modelPct(a api.Value) api.Value {
	if a = modelNum(a); a.Kind == api.VErr {
		return a
	}
	return modelOf(dec.Div(a.N, api.Dec{C: 100}))
}

func modelTyped(s string) api.Value {
	if s == "" {
		return empty
	}
	if d, e := dec.Parse(s); e == api.OK {
		return num(d.C, d.E)
	}
	for i, name := range names {
		if s == name {
			return fail(i + 1)
		}
	}
	switch {
	case s == "TRUE":
		return truth(true)
	case s == "FALSE":
		return truth(false)
	case s[0] == '\'':
		return modelTaken(text(s[1:]))
	}
	return modelTaken(text(s))
}

func modelShow(v api.Value) string {
	if v = modelTaken(v); v.Kind == api.VErr {
		return names[v.E-1]
	}
	return modelText(v).S
}

// ops are all operators, and what is none.
var ops = []int{1, 2, 3, 4, 5, 6, 7, 8, 9, 10, 11, 12, 0, -1, 13, 14, math.MaxInt, math.MinInt}

// stop ends a test that has failed: a test of very many values would tell very much.
func stop(t *testing.T) {
	if t.Failed() {
		t.FailNow()
	}
}

// asModel holds every call of a and b against the model.
func asModel(t *testing.T, a, b api.Value) {
	t.Helper()
	stop(t)
	is(t, val.Right(a), modelTaken(a) == a, "Right", a)
	is(t, val.Num(a), modelNum(a), "Num", a)
	is(t, val.Text(a), modelText(a), "Text", a)
	is(t, val.Bool(a), modelBool(a), "Bool", a)
	is(t, val.Neg(a), modelNeg(a), "Neg", a)
	is(t, val.Pct(a), modelPct(a), "Pct", a)
	is(t, val.Show(a), modelShow(a), "Show", a)
	is(t, val.Cmp(a, b), modelCmp(a, b), "Cmp", a, b)
	for _, op := range ops {
		is(t, val.Bin(op, a, b), modelBin(op, a, b), "Bin", op, a, b)
	}
}

// TestAsModelAtEdges asks every two of the values at the edges, right and not.
func TestAsModelAtEdges(t *testing.T) {
	all := append(rightValues(), wrongValues()...)
	for _, a := range all {
		for _, b := range all {
			asModel(t, a, b)
		}
	}
}

func TestAsModelAnyValues(t *testing.T) {
	r := rand.New(rand.NewSource(1301))
	for range 50000 {
		a, b := anyValue(r), anyValue(r)
		asModel(t, a, b)
		is(t, val.Typed(a.S), modelTyped(a.S), "Typed", a.S)
		is(t, val.Str(a.S), modelTaken(text(a.S)), "Str", a.S)
	}
}
