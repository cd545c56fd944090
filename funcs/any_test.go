package funcs_test

import (
	"math"
	"math/rand"
	"slices"
	"strings"

	"quire/api"
	"quire/dec"
	"quire/funcs"
)

// edges are right values at the edges, of all kinds.
func edges() []api.Value {
	all := []api.Value{empty, truth(false), truth(true)}
	for code := api.EDiv; code <= api.ECycle; code++ {
		all = append(all, fail(code))
	}
	for _, d := range []api.Dec{{}, {C: 1}, {C: -1}, {C: 2}, {C: 3}, {C: 15, E: -1}, {C: -5, E: -1}, {C: 99, E: -2}, {C: 1, E: -18}, {C: 1, E: 18}, {C: 18}, {C: -18}, {C: 19}, {C: -19}, {C: 64}, {C: 65}, {C: 255}, {C: 256}, {C: 1 << 53}, {C: 1<<53 + 1}, {C: -1 << 53}, {C: -1<<53 - 1}, {C: math.MaxInt64}, {C: math.MinInt64}, {C: math.MaxInt64, E: 18}, {C: math.MinInt64, E: 18}, {C: math.MaxInt64, E: -18}, {C: math.MinInt64, E: -18}} {
		all = append(all, num(d.C, d.E))
	}
	for _, s := range []string{"", " ", "a", "A", "b", "aa", "aba", "ab ab  ab", "ñ", "añb", "你", "\U0010ffff", "0", "1", "2", " 2 ", "-1", "0.5", "1e400", "TRUE", "false", "#N/A", "0.00", "0%", "@", "?", "\t", strings.Repeat("a", 255), strings.Repeat("你", 85), strings.Repeat("b", 128)} {
		all = append(all, text(s))
	}
	return all
}

// wrongValues are not right, each in another way.
func wrongValues() []api.Value {
	return []api.Value{
		{Kind: -1}, {Kind: 5}, {Kind: math.MaxInt},
		{N: api.Dec{C: 1}}, {S: "a"}, {B: true}, {E: 1},
		num(10, 0), num(0, 1), num(1, 19), num(1, -19),
		{Kind: api.VNum, S: "a"}, {Kind: api.VNum, B: true}, {Kind: api.VNum, E: 1},
		text("\x00"), text("\xff"), text("\ufffe"), text(strings.Repeat("a", 256)),
		{Kind: api.VText, E: 1}, {Kind: api.VBool, S: "a"}, {Kind: api.VBool, N: api.Dec{C: 1}},
		fail(0), fail(8), fail(-1), {Kind: api.VErr, E: 1, B: true},
	}
}

// wrongArgs are not right, each in one way alone.
func wrongArgs() []funcs.Arg {
	single, a := one(1), area(2, 3, 1, 2, 3, 4, 5, 6)
	all := []funcs.Arg{{}, {Area: true}, {V: []api.Value{empty}}, {Area: true, V: []api.Value{empty}}}
	turn := func(of funcs.Arg, way func(a *funcs.Arg)) {
		of.V = append([]api.Value(nil), of.V...)
		way(&of)
		all = append(all, of)
	}
	for _, n := range []int{0, -1, 2, math.MaxInt, math.MinInt} {
		turn(single, func(a *funcs.Arg) { a.Cols = n })
		turn(single, func(a *funcs.Arg) { a.Rows = n })
	}
	for _, n := range []int{1, -1, math.MaxInt, math.MinInt} {
		turn(single, func(a *funcs.Arg) { a.Col = n })
		turn(single, func(a *funcs.Arg) { a.Row = n })
	}
	turn(single, func(a *funcs.Arg) { a.Col, a.Row = 1, 1 })
	turn(single, func(a *funcs.Arg) { a.V = nil })
	turn(single, func(a *funcs.Arg) { a.V = append(a.V, empty) })
	turn(single, func(a *funcs.Arg) { a.Cols, a.V = 2, append(a.V, empty) })
	turn(single, func(a *funcs.Arg) { a.Area = true })
	for _, n := range []int{0, -1, math.MinInt} {
		turn(a, func(a *funcs.Arg) { a.Col = n })
		turn(a, func(a *funcs.Arg) { a.Row = n })
	}
	for _, n := range []int{0, 1, 3, -2, -3, 65, 513, math.MaxInt, math.MinInt} {
		turn(a, func(a *funcs.Arg) { a.Cols = n })
	}
	for _, n := range []int{0, 1, 2, 4, -2, -3, 513, math.MaxInt, math.MinInt} {
		turn(a, func(a *funcs.Arg) { a.Rows = n })
	}
	turn(a, func(a *funcs.Arg) { a.Area = false })
	turn(a, func(a *funcs.Arg) { a.V = a.V[:5] })
	turn(a, func(a *funcs.Arg) { a.V = append(a.V, empty) })
	turn(a, func(a *funcs.Arg) { a.V = nil })
	turn(a, func(a *funcs.Arg) { a.Cols, a.Rows = -2, -3 })
	turn(a, func(a *funcs.Arg) { a.Cols, a.Rows, a.V = 0, 3, nil })
	turn(a, func(a *funcs.Arg) { a.Cols, a.Rows, a.V = 2, 0, nil })
	turn(a, func(a *funcs.Arg) { a.Cols, a.Rows, a.V = 1<<32, 1<<32, nil })
	all = append(all, full(65, 1, 1), full(1, 513, 1), full(65, 512, 1), full(64, 513, 1), full(512, 64, 1))
	for _, v := range wrongValues() {
		all = append(all, funcs.Arg{Cols: 1, Rows: 1, V: []api.Value{v}})
		for i := range 3 {
			turn(row(1, "'x", 3), func(a *funcs.Arg) { a.V[i] = v })
		}
	}
	return all
}

// What any arguments are taken from. Great areas are not among them: they take long.
var (
	edgeOnes  = edges()
	wrongOnes = slices.DeleteFunc(wrongArgs(), func(a funcs.Arg) bool { return len(a.V) > 100 })
)

// anyValue is a right one: of few, so that many are like, or at the edges, or any number.
func anyValue(r *rand.Rand) api.Value {
	few := []api.Value{empty, text(""), truth(true), truth(false), num(0, 0), num(1, 0), num(2, 0), num(-1, 0), num(5, -1), text("a"), text("A"), text("ab"), text("1"), text("b"), text("0"), text("TRUE")}
	switch r.Intn(8) {
	case 0:
		return edgeOnes[r.Intn(len(edgeOnes))]
	case 1:
		d, _ := dec.Make(int64(r.Uint64())>>r.Intn(64), r.Intn(2*api.MaxExp+1)-api.MaxExp)
		return num(d.C, d.E)
	case 2:
		return whole(r.Intn(7) - 2)
	case 3:
		return anyText(r)
	}
	return few[r.Intn(len(few))]
}

// anyText is of few signs, so that many stand in one another.
func anyText(r *rand.Rand) api.Value {
	signs := []string{"a", "b", "A", " ", "ñ", "你", "0", "#", ".", "@", ",", ";", "%"}
	var s string
	most := 2 + r.Intn(len(signs)-1)
	for range r.Intn(8) {
		s += signs[r.Intn(most)]
	}
	return text(s)
}

// calm is a value that is no error, as most must be, if many are to come to an answer.
func calm(r *rand.Rand) api.Value {
	for {
		if v := anyValue(r); v.Kind != api.VErr {
			return v
		}
	}
}

// anyArg is a right one.
func anyArg(r *rand.Rand) funcs.Arg {
	pick := calm
	if r.Intn(6) == 0 {
		pick = anyValue
	}
	if r.Intn(2) == 0 {
		return one(pick(r))
	}
	cols, rows := 1+r.Intn(4), 1+r.Intn(4)
	if r.Intn(3) == 0 {
		cols = 1
	}
	if r.Intn(3) == 0 {
		rows = 1
	}
	a := area(cols, rows)
	a.Col, a.Row = 1+r.Intn(64), 1+r.Intn(512)
	for range cols * rows {
		a.V = append(a.V, pick(r))
	}
	return a
}

// anyArgs are arguments of a function: right ones, and as many as it may have, most times.
func anyArgs(r *rand.Rand, name string) (l []funcs.Arg) {
	b := boundOf[name]
	n := b[0] + r.Intn(min(b[1]-b[0], 4)+1)
	if r.Intn(20) == 0 {
		n = r.Intn(35)
	}
	for range n {
		l = append(l, anyArg(r))
	}
	if n > 0 && r.Intn(50) == 0 {
		l[r.Intn(n)] = wrongOnes[r.Intn(len(wrongOnes))]
	}
	return l
}
