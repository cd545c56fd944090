package funcs_test

import (
	"math"
	"math/rand"
	"strings"
	"testing"

	"quire/api"
	"quire/funcs"
)

// P1601: Apply as a whole.

func TestApplyOfAnyArguments(t *testing.T) {
	r := rand.New(rand.NewSource(1601))
	for range 4000 {
		for _, name := range names() {
			hold(t, name, anyArgs(r, name))
		}
	}
}

// anyKinds are arguments of all kinds at the edges, few enough to be put beside each other in all ways.
func anyKinds() []funcs.Arg {
	all := []funcs.Arg{
		row("1", "2", "3"), row("'a", "1"), column("3", "'b", "", "TRUE"), column("'b", "'a"), row("", "'"), row("2"), column("#N/A"),
		area(2, 2, "1", "'x", "'a", "2"), area(2, 3, "#REF!", "'a", "'A", "5", "1", "7"),
	}
	for _, v := range edges() {
		all = append(all, one(v))
	}
	return all
}

func TestApplyOfEachOneAndTwo(t *testing.T) {
	all := anyKinds()
	for _, name := range names() {
		hold(t, name, nil)
		for _, a := range all {
			hold(t, name, []funcs.Arg{a})
			for _, b := range all {
				hold(t, name, []funcs.Arg{a, b})
			}
		}
	}
}

func TestApplyOfEachThreeAndFour(t *testing.T) {
	var few []funcs.Arg
	for _, x := range []any{"", "TRUE", "FALSE", "#N/A", "#REF!", "0", "1", "2", "-1", "0.5", "3", "'", "'a", "'ab", "'aXaXa", "1e18"} {
		few = append(few, one(x))
	}
	few = append(few, row("1", "2"), column("'a", "2"), area(2, 2, "1", "'a", "'A", "2"), row("#DIV/0!"))
	for _, name := range []string{"IF", "CHOOSE", "MID", "FIND", "SUBSTITUTE", "INDEX", "MATCH", "VLOOKUP", "SUMIF", "SUM", "AND", "CONCAT", "LEFT"} {
		for _, a := range few {
			for _, b := range few {
				for _, c := range few {
					hold(t, name, []funcs.Arg{a, b, c})
				}
			}
		}
	}
	for _, name := range []string{"SUBSTITUTE", "VLOOKUP"} {
		for i := range 160000 {
			hold(t, name, []funcs.Arg{few[i%20], few[i/20%20], few[i/400%20], few[i/8000]})
		}
	}
}

func TestApplyOfWrongArguments(t *testing.T) {
	for _, a := range wrongArgs() {
		for _, name := range append(names(), "NONE", "", "sum") {
			is(t, funcs.Apply(name, []funcs.Arg{a}), fail(api.EValue), name, a)
			is(t, funcs.Apply(name, []funcs.Arg{one("#N/A"), a}), fail(api.EValue), name, a)
			is(t, funcs.Apply(name, []funcs.Arg{a, one("#N/A"), one(1)}), fail(api.EValue), name, a)
			is(t, funcs.Apply(name, append(arguments(times(32, 1)), a)), fail(api.EValue), name, "32 others", a)
			is(t, funcs.Apply(name, append(arguments(times(31, 1)), a)), fail(api.EValue), name, "31 others", a)
		}
	}
}

func TestApplyOfTooMany(t *testing.T) {
	for _, name := range append(names(), "NONE", "", "sum") {
		for _, n := range []int{33, 34, 64, 1000} {
			is(t, funcs.Apply(name, arguments(times(n, 1))), fail(api.EValue), name, n)
		}
	}
	ask(t, 32, "SUM", times(32, 1)...)
	ask(t, fail(api.EValue), "SUM", times(33, 1)...)
	ask(t, fail(api.EName), "NONE", times(32, 1)...)
	ask(t, 5, "CHOOSE", append([]any{31}, append(times(30, 1), 5)...)...)
}

// noNames are those of no function.
func noNames() []string {
	all := []string{"", " ", "SUM ", " SUM", "SUM(", "SUMS", "SU", "\x00", "\xff", "LOG10", "SQRT", "IFS", "TODAY", "RAND", "CONCATENATE", "AVG", "#N/A", "ÄND", "VERR", strings.Repeat("SUM", 10000)}
	for _, name := range names() {
		all = append(all, strings.ToLower(name), name[:1]+strings.ToLower(name[1:]), name+"\x00", name+"_", name[1:]+name[:1])
	}
	return all
}

func TestApplyOfNoFunction(t *testing.T) {
	for _, name := range noNames() {
		is(t, funcs.Apply(name, nil), fail(api.EName), "Apply", name)
		ask(t, fail(api.EName), name, 1)
		ask(t, fail(api.EName), name, "#N/A", row(1, 2))
		ask(t, fail(api.EName), name, times(32, 1)...)
	}
}

func TestApplyOfFewerAndMore(t *testing.T) {
	for name, b := range boundOf {
		for n := range 33 {
			l := arguments(times(n, "#CYCLE!"))
			got := funcs.Apply(name, l)
			if n < b[0] || n > b[1] {
				is(t, got, fail(api.EValue), name, n, "errors")
			}
			is(t, got, modelApply(name, l), name, n, "errors")
		}
	}
	ask(t, fail(api.EValue), "SUM")
	ask(t, fail(api.EValue), "MID", "'abc", 1)
	ask(t, fail(api.EValue), "MID", "'abc", 1, 1, 1)
	ask(t, fail(api.EValue), "NA", 1)
	ask(t, fail(api.EValue), "TRUE", "")
	ask(t, fail(api.EValue), "IF", true)
	ask(t, fail(api.EValue), "IF", true, 1, 2, 3)
}

// failing are calls, each of whose arguments from then to last are taken; in the place of each an error of its own must be the answer, the first one of all.
func TestErrorsInTheOrderOfTheArguments(t *testing.T) {
	for name, l := range map[string][]any{
		"SUM": {1, 2, 3}, "PRODUCT": {1, 2, 3}, "MIN": {1, 2, 3}, "MAX": {1, 2, 3}, "AVERAGE": {1, 2, 3}, "AND": {true, true}, "OR": {true, true}, "XOR": {true, true}, "CONCAT": {"'a", "'b"},
		"MOD": {1, 2}, "POWER": {1, 2}, "ROUND": {1, 2}, "LEFT": {"'a", 1}, "RIGHT": {"'a", 1}, "MID": {"'a", 1, 1}, "FIND": {"'a", "'a", 1}, "SUBSTITUTE": {"'a", "'b", "'c", 1}, "REPT": {"'a", 2}, "EXACT": {"'a", "'a"}, "TEXT": {1, "'0"},
		"ABS": {1}, "SIGN": {1}, "INT": {1}, "NOT": {true}, "LEN": {"'a"}, "UPPER": {"'a"}, "LOWER": {"'a"}, "TRIM": {"'a"}, "VALUE": {"'1"},
	} {
		for i := range l {
			for j := i; j < len(l); j++ {
				with := append([]any(nil), l...)
				with[j] = fail(api.ECycle)
				with[i] = fail(api.ENA)
				ask(t, fail(api.ENA), name, with...)
				with[i] = row("#N/A")
				ask(t, fail(api.ENA), name, with...)
			}
		}
	}
}

// Each error ahead of those that the document names behind it.
func TestErrorsAheadOfOthers(t *testing.T) {
	bad := funcs.Arg{}
	ask(t, fail(api.EValue), "NONE", bad)
	ask(t, fail(api.EValue), "NONE", times(33, 1)...)
	ask(t, fail(api.EName), "NONE", "#N/A")
	ask(t, fail(api.EValue), "ABS", "#N/A", "#N/A")
	ask(t, fail(api.EValue), "MOD", "#N/A")
	ask(t, fail(api.ENA), "LEFT", "'a", "#N/A")
	ask(t, fail(api.ENA), "LEFT", "#N/A", -1)
	ask(t, fail(api.ENum), "LEFT", "'a", "1e18")
	ask(t, fail(api.ENA), "MID", "'a", 0, "#N/A")
	ask(t, fail(api.ENum), "MID", "'a", -1, "1e18")
	ask(t, fail(api.ENA), "FIND", "'a", "#N/A", 0)
	ask(t, fail(api.ENA), "SUBSTITUTE", "'a", "'a", "#N/A", 0)
	ask(t, fail(api.ENA), "REPT", "#N/A", -1)
	ask(t, fail(api.ENA), "TEXT", "#N/A", "'?")
	ask(t, fail(api.EDiv), "TEXT", "'a", "#DIV/0!")
	ask(t, fail(api.EDiv), "ROUND", "#DIV/0!", 19)
	ask(t, fail(api.ENA), "ROUND", "#N/A", "#DIV/0!")
	ask(t, fail(api.ENA), "MOD", "#N/A", 0)
	ask(t, fail(api.ENA), "SUM", "9e18", "9e18", "#N/A")
	ask(t, fail(api.ENA), "PRODUCT", "9e18", "9e18", row("#N/A"))
	ask(t, fail(api.ENA), "AVERAGE", row("'a"), "#N/A")
	ask(t, fail(api.ENA), "AND", row("'a"), "#N/A")
	ask(t, fail(api.ENA), "CONCAT", text(strings.Repeat("a", 200)), text(strings.Repeat("a", 200)), "#N/A")
	ask(t, fail(api.ENA), "CHOOSE", "#N/A", 1)
	ask(t, fail(api.EValue), "CHOOSE", "#N/A")
}

// Areas in the stead of single values: of one value it counts, of more there is none.
func TestAreasForSingleValues(t *testing.T) {
	for _, name := range []string{"ABS", "SIGN", "INT", "NOT", "LEN", "UPPER", "LOWER", "TRIM", "VALUE"} {
		for _, x := range []any{"7", "-2.5", "'12", "", "TRUE", "#N/A"} {
			want := funcs.Apply(name, arguments([]any{x}))
			ask(t, want, name, row(x))
			ask(t, want, name, column(x))
			ask(t, fail(api.EValue), name, row(x, x))
			ask(t, fail(api.EValue), name, column(x, x))
			ask(t, fail(api.EValue), name, full(64, 512, x))
		}
	}
	ask(t, 3, "MOD", row(7), row(4))
	ask(t, fail(api.EValue), "MOD", row(7, 7), row(4))
	ask(t, fail(api.EValue), "MOD", row(7), row(4, 4))
	ask(t, fail(api.EValue), "LEFT", row("'ab", "'ab"), 1)
	ask(t, fail(api.EValue), "LEFT", "'ab", row(1, 1))
	ask(t, "'a", "LEFT", row("'ab"), row(1))
	ask(t, fail(api.EValue), "EXACT", row("'a", "'a"), row("'a", "'a"))
	ask(t, true, "EXACT", row("'a"), column("'a"))
	ask(t, fail(api.EValue), "TEXT", row(1, 2), "'0")
	ask(t, fail(api.EValue), "TEXT", 1, row("'0", "'0"))
	ask(t, "'1", "TEXT", row(1), row("'0"))
	ask(t, fail(api.EValue), "IF", row(true, true), 1, 2)
	ask(t, fail(api.EValue), "IF", true, row(1, 2), 3)
	ask(t, 3, "IF", row(false), row(1, 2), row(3))
	ask(t, fail(api.EValue), "CHOOSE", 1, row(1, 2))
	ask(t, 5, "IFERROR", row(1, 2), 5)
	ask(t, fail(api.EValue), "IFERROR", "#N/A", row(1, 2))
	ask(t, true, "ISERROR", row(1, 2))
	ask(t, false, "ISNUMBER", row(1, 2))
	ask(t, true, "ISNUMBER", row(1))
	ask(t, fail(api.EValue), "MATCH", row(1, 2), row(1, 2))
	ask(t, fail(api.EValue), "COUNTIF", row(1, 2), row(1, 2))
}

// W, the whole number.
func TestWholeNumbers(t *testing.T) {
	for _, c := range []struct {
		w, want any
	}{
		{"1.999", "'a"}, {"2.000", "'ab"}, {"0.999", "'"}, {"0", "'"}, {"'1", "'a"}, {"' 1.5 ", "'a"}, {"TRUE", "'a"}, {"FALSE", "'"}, {"", "'"},
		{"-0.000000000000000001", fail(api.EValue)}, {"-1", fail(api.EValue)}, {"-0.5", fail(api.EValue)}, {"'x", fail(api.EValue)}, {"'", fail(api.EValue)}, {"'1e400", fail(api.ENum)},
		{"9007199254740992", "'abc"}, {"9007199254740992.5", "'abc"}, {"9007199254740993", fail(api.ENum)}, {"9223372036854775807", fail(api.ENum)}, {"1e18", fail(api.ENum)}, {num(math.MaxInt64, 18), fail(api.ENum)},
		{"-9007199254740992", fail(api.EValue)}, {"-9007199254740992.5", fail(api.ENum)}, {"-9007199254740993", fail(api.ENum)}, {num(math.MinInt64, 18), fail(api.ENum)}, {num(math.MinInt64, -18), fail(api.EValue)},
	} {
		ask(t, c.want, "LEFT", "'abc", c.w)
	}
	ask(t, "'c", "RIGHT", "'abc", "1.9")
	ask(t, "'abc", "RIGHT", "'abc", "9007199254740992")
	ask(t, "'", "MID", "'abc", "9007199254740992", "9007199254740992")
	ask(t, "'abc", "MID", "'abc", "1.9", "9007199254740992")
	ask(t, fail(api.EValue), "MID", "'abc", "0.9", 1)
	ask(t, "12.35", "ROUND", "12.345", "2.9")
	ask(t, "12", "ROUND", "12.345", "0.9")
	ask(t, "10", "ROUND", "12.345", "-0.1")
}

func TestNothingOfTheArgumentsIsChanged(t *testing.T) {
	r := rand.New(rand.NewSource(16011))
	for _, name := range names() {
		for range 50 {
			l := anyArgs(r, name)
			roomy := make([]funcs.Arg, len(l), len(l)+3)
			for i, a := range l {
				a.V = append(make([]api.Value, 0, len(a.V)+3), a.V...)
				roomy[i] = a
			}
			spare := roomy[:cap(roomy)][len(l):]
			is(t, funcs.Apply(name, roomy), funcs.Apply(name, l), name, l)
			for _, a := range spare {
				is(t, a.Area || a.Cols != 0 || a.V != nil, false, "spare room of "+name)
			}
			for i, a := range roomy {
				for _, v := range a.V[:cap(a.V)][len(a.V):] {
					is(t, v, empty, "spare room of "+name, i)
				}
			}
		}
	}
}

// P1602: One, Right, Known, Counts.

func TestOne(t *testing.T) {
	for _, v := range append(edges(), wrongValues()...) {
		a := funcs.One(v)
		is(t, a.Area, false, "One", v)
		is(t, [4]int{a.Cols, a.Rows, a.Col, a.Row}, [4]int{1, 1, 0, 0}, "One", v)
		is(t, len(a.V), 1, "One", v)
		is(t, a.V[0], v, "One", v)
		b := funcs.One(v)
		a.V[0] = num(77, 0)
		_ = append(a.V, num(78, 0))
		is(t, b.V[0], v, "One shares", v)
		is(t, len(b.V[:cap(b.V)]) == 1 || b.V[:cap(b.V)][1] == empty, true, "One shares its room", v)
	}
	for _, v := range edges() {
		is(t, funcs.Right(funcs.One(v)), true, "Right of One", v)
	}
	for _, v := range wrongValues() {
		is(t, funcs.Right(funcs.One(v)), false, "Right of One", v)
	}
}

func TestRight(t *testing.T) {
	for _, a := range wrongArgs() {
		is(t, funcs.Right(a), false, "Right", a)
		is(t, modelRight(a), false, "model of Right", a)
	}
	for _, v := range edges() {
		is(t, funcs.Right(one(v)), true, "Right", v)
		is(t, funcs.Right(row(v)), true, "Right", v)
		is(t, funcs.Right(area(2, 2, 1, v, v, 2)), true, "Right", v)
	}
	for _, size := range [][2]int{{1, 1}, {64, 1}, {1, 512}, {64, 512}, {63, 511}, {2, 3}} {
		a := full(size[0], size[1], 1)
		is(t, funcs.Right(a), true, "Right of area", size)
		for _, n := range []int{1, 2, 64, 65, 512, 513, math.MaxInt} {
			a.Col, a.Row = n, 1
			is(t, funcs.Right(a), true, "Right of area", size, "in column", n)
			a.Col, a.Row = 1, n
			is(t, funcs.Right(a), true, "Right of area", size, "in row", n)
		}
	}
	last := full(64, 512, 1)
	last.V[64*512-1] = fail(0)
	is(t, funcs.Right(last), false, "Right of area whose last value is not")
	roomy := one(1)
	roomy.V = append(roomy.V, fail(0))[:1]
	is(t, funcs.Right(roomy), true, "Right, whatever the spare room has")
	r := rand.New(rand.NewSource(1602))
	for range 20000 {
		a := anyArg(r)
		is(t, funcs.Right(a), true, "Right", a)
		a.Area = r.Intn(4) > 0
		a.Cols, a.Rows = r.Intn(5)-1, r.Intn(5)-1
		a.Col, a.Row = r.Intn(3), r.Intn(3)
		is(t, funcs.Right(a), modelRight(a), "Right", a)
	}
}

func TestKnownAndCounts(t *testing.T) {
	is(t, len(boundOf), len(names()), "functions")
	for _, name := range names() {
		is(t, funcs.Known(name), true, "Known", name)
		least, most := funcs.Counts(name)
		is(t, [2]int{least, most}, boundOf[name], "Counts", name)
	}
	for _, name := range noNames() {
		is(t, funcs.Known(name), false, "Known", name)
		least, most := funcs.Counts(name)
		is(t, [2]int{least, most}, [2]int{}, "Counts", name)
	}
}

// Every name of up to three capital letters is known or not.
func TestKnownOfShortNames(t *testing.T) {
	short := map[string]bool{}
	for _, name := range names() {
		short[name] = true
	}
	var look func(name string)
	look = func(name string) {
		is(t, funcs.Known(name), short[name], "Known", name)
		if len(name) == 3 {
			return
		}
		for c := 'A'; c <= 'Z'; c++ {
			look(name + string(c))
		}
	}
	look("")
}

// The chapter's examples.
func TestExamples(t *testing.T) {
	ask(t, 3, "SUM", row(1, "'x", true), "'2")
	ask(t, "1.5", "AVERAGE", 1, 2)
	ask(t, fail(api.ENum), "AVERAGE", 1, 1, 2)
	ask(t, 2, "FIND", "'b", "'abc")
	ask(t, 2, "MATCH", 2, row(1, 2, 3))
	ask(t, false, "IF", false, 1)
}
