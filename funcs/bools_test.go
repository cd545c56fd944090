package funcs_test

import (
	"testing"

	"quire/api"
)

// P1601: the functions that choose, and those of bools and kinds.

func TestChoices(t *testing.T) {
	ask(t, false, "IF", false, 1)
	ask(t, 1, "IF", true, 1)
	ask(t, 1, "IF", true, 1, "#N/A")
	ask(t, 2, "IF", false, "#N/A", 2)
	ask(t, fail(api.ENA), "IF", true, "#N/A", 2)
	ask(t, fail(api.ENA), "IF", false, 1, "#N/A")
	ask(t, fail(api.ENA), "IF", "#N/A", 1, "#REF!")
	ask(t, fail(api.EValue), "IF", "'x", 1, 2)
	ask(t, fail(api.EValue), "IF", text(""), 1, 2)
	ask(t, 1, "IF", "'true", 1, 2)
	ask(t, 2, "IF", "'False", 1, 2)
	ask(t, 2, "IF", "", 1, 2)
	ask(t, 1, "IF", "-0.5", 1, 2)
	ask(t, empty, "IF", true, "", 1)
	ask(t, empty, "IF", 0, 1, "")
	ask(t, text(""), "IF", true, text(""))
	ask(t, false, "IF", 0, "#N/A")

	ask(t, 1, "IFERROR", 1, "#N/A")
	ask(t, empty, "IFERROR", "", 1)
	for code := api.EDiv; code <= api.ECycle; code++ {
		ask(t, 2, "IFERROR", fail(code), 2)
		ask(t, fail(code), "IFERROR", "#N/A", fail(code))
	}
	ask(t, empty, "IFERROR", "#N/A", "")
	ask(t, "'x", "IFERROR", "'x", 1)

	ask(t, "'a", "CHOOSE", 1, "'a", "'b", "'c")
	ask(t, "'c", "CHOOSE", "3.9", "'a", "'b", "'c")
	ask(t, "'b", "CHOOSE", 2, "#N/A", "'b", "#REF!")
	ask(t, fail(api.EDiv), "CHOOSE", 2, "#N/A", "#DIV/0!", "#REF!")
	ask(t, "'a", "CHOOSE", true, "'a")
	ask(t, empty, "CHOOSE", 1, "")
	for _, none := range []any{0, 4, -1, "0.9", "", false, 9007199254740992, -9007199254740992} {
		ask(t, fail(api.EValue), "CHOOSE", none, "'a", "'b", "'c")
		ask(t, fail(api.EValue), "CHOOSE", none, "#N/A", "#REF!", "#REF!")
	}
	ask(t, fail(api.ENum), "CHOOSE", "1e18", "'a")
	ask(t, fail(api.EValue), "CHOOSE", "'x", "'a")
	ask(t, fail(api.ENA), "CHOOSE", "#N/A", "'a")
}

func TestBools(t *testing.T) {
	for _, c := range []struct {
		l            []any
		and, or, xor any
	}{
		{[]any{true}, true, true, true},
		{[]any{false}, false, false, false},
		{[]any{true, true}, true, true, false},
		{[]any{true, false}, false, true, true},
		{[]any{true, true, true}, true, true, true},
		{[]any{false, false, true, true}, false, true, false},
		{[]any{""}, false, false, false},
		{[]any{"", true}, false, true, true},
		{[]any{row("", true)}, true, true, true},
		{[]any{"'tRue", "0.1"}, true, true, false},
		{[]any{row("'FALSE", "'x", 2), row("'")}, true, true, true},
		{[]any{row(true, 0), column(1, 1)}, false, true, true},
		{[]any{row("'x"), 0}, false, false, false},
		{[]any{full(64, 512, true), true}, true, true, true},
	} {
		ask(t, c.and, "AND", c.l...)
		ask(t, c.or, "OR", c.l...)
		ask(t, c.xor, "XOR", c.l...)
	}
	for _, name := range []string{"AND", "OR", "XOR"} {
		ask(t, fail(api.EValue), name, row("'x"))
		ask(t, fail(api.EValue), name, row("'TRUE", ""), column("", text("")))
		ask(t, fail(api.EValue), name, "'x")
		ask(t, fail(api.EValue), name, text(""))
		ask(t, fail(api.EValue), name, "'1")
		ask(t, fail(api.EValue), name, true, "'x", "#N/A")
		ask(t, fail(api.ENA), name, false, row("'x", "#N/A", "#REF!"), "'x")
		ask(t, fail(api.ERef), name, true, "#REF!", row("#N/A"))
		ask(t, fail(api.ECycle), name, row("'x"), "#CYCLE!")
	}
	ask(t, false, "NOT", true)
	ask(t, true, "NOT", false)
	ask(t, true, "NOT", "")
	ask(t, false, "NOT", -2)
	ask(t, true, "NOT", "'false")
	ask(t, fail(api.EValue), "NOT", "'0")
	ask(t, fail(api.ENA), "NOT", "#N/A")
}

func TestKinds(t *testing.T) {
	for i, name := range []string{"ISBLANK", "ISNUMBER", "ISTEXT", "ISLOGICAL", "ISERROR"} {
		for _, v := range edges() {
			ask(t, v.Kind == i, name, v)
			ask(t, v.Kind == i, name, row(v))
			ask(t, name == "ISERROR", name, row(v, v))
		}
	}
	ask(t, false, "ISBLANK", text(""))
	ask(t, false, "ISNUMBER", "'1")
	ask(t, false, "ISTEXT", "#N/A")
}

func TestWithoutArguments(t *testing.T) {
	ask(t, fail(api.ENA), "NA")
	ask(t, true, "TRUE")
	ask(t, false, "FALSE")
	for _, name := range []string{"NA", "TRUE", "FALSE"} {
		ask(t, fail(api.EValue), name, "")
		ask(t, fail(api.EValue), name, "#N/A", 1)
	}
}
