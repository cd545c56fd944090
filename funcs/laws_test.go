package funcs_test

import (
	"math/rand"
	"testing"

	"quire/api"
	"quire/funcs"
	"quire/val"
)

// P1603: the laws.

// What is answered is right, of any arguments, right and not, of any number of them.
func TestAnswersAreRight(t *testing.T) {
	r := rand.New(rand.NewSource(1603))
	all := append(names(), noNames()...)
	for range 60000 {
		name := all[r.Intn(len(all))]
		var l []funcs.Arg
		for range r.Intn(35) {
			l = append(l, anyArg(r))
		}
		if r.Intn(3) > 0 {
			l = l[:min(len(l), r.Intn(5))]
		}
		if len(l) > 0 && r.Intn(10) == 0 {
			l[r.Intn(len(l))] = wrongOnes[r.Intn(len(wrongOnes))]
		}
		if v := funcs.Apply(name, l); !val.Right(v) {
			t.Fatalf("%s %s: %s is not right", name, brief(l), brief(v))
		}
	}
	for _, name := range names() {
		for _, a := range wrongArgs() {
			is(t, val.Right(funcs.Apply(name, []funcs.Arg{a})), true, name, a)
		}
	}
}

// parted are the values, in their order, among areas of any widths.
func parted(r *rand.Rand, l []api.Value) (made []funcs.Arg) {
	for len(l) > 0 {
		cols, rows := 1+r.Intn(4), 1+r.Intn(3)
		if cols*rows > len(l) || len(made) == api.MaxArgs-1 {
			cols, rows = 1, len(l)
			if len(made) < api.MaxArgs-1 {
				rows = 1
			}
		}
		made = append(made, funcs.Arg{Area: true, Cols: cols, Rows: rows, Col: 1 + r.Intn(64), Row: 1 + r.Intn(512), V: l[:cols*rows]})
		l = l[cols*rows:]
	}
	return made
}

func TestPartsDoNotCount(t *testing.T) {
	r := rand.New(rand.NewSource(16031))
	for range 20000 {
		var l []api.Value
		pick := calm
		if r.Intn(4) == 0 {
			pick = anyValue
		}
		for range 1 + r.Intn(60) {
			l = append(l, pick(r))
		}
		whole := []funcs.Arg{{Area: true, Cols: 1, Rows: len(l), Col: 1, Row: 1, V: l}}
		for _, name := range []string{"SUM", "MIN", "MAX", "COUNT", "AND", "OR"} {
			want := hold(t, name, whole)
			is(t, funcs.Apply(name, parted(r, l)), want, name, l)
			is(t, funcs.Apply(name, parted(r, l)), want, name, l)
		}
		if t.Failed() {
			return
		}
	}
}

// LEFT, and what RIGHT leaves: the text.
func TestLeftAndRight(t *testing.T) {
	r := rand.New(rand.NewSource(16032))
	values := edges()
	for range 5000 {
		values = append(values, anyText(r), anyValue(r))
	}
	for _, v := range values {
		s := val.Text(v)
		if s.Kind == api.VErr {
			continue
		}
		count := funcs.Apply("LEN", arguments([]any{v}))
		for n := range int(count.N.C) + 2 {
			rest := val.Bin(api.OSub, count, whole(n))
			if rest.N.C < 0 {
				rest = whole(0)
			}
			left, right := funcs.Apply("LEFT", arguments([]any{v, n})), funcs.Apply("RIGHT", arguments([]any{v, rest}))
			is(t, val.Bin(api.OCat, left, right), s, "LEFT and RIGHT", v, n)
			if n > 60 {
				break
			}
		}
	}
}
