package cells_test

import (
	"math/rand"
	"strings"
	"testing"

	"quire/cells"
)

// P1003

func TestSheetName(t *testing.T) {
	for _, s := range names {
		is(t, cells.SheetName(s), true, "SheetName", s)
	}
	for _, s := range notNames {
		is(t, cells.SheetName(s), false, "SheetName", s)
	}
}

// TestSheetNameOfEachByte asks each byte alone, at each end and within.
func TestSheetNameOfEachByte(t *testing.T) {
	for b := range 256 {
		c := string([]byte{byte(b)})
		may := b >= 0x20 && b <= 0x7e && !strings.Contains(`:\/?*[]`, c)
		is(t, cells.SheetName("a"+c+"b"), may, "SheetName", "a"+c+"b")
		is(t, cells.SheetName(strings.Repeat("a", 29)+c+"b"), may, "SheetName", b)
		for _, s := range []string{c, c + "a", "a" + c, c + strings.Repeat("a", 30), strings.Repeat("a", 30) + c} {
			is(t, cells.SheetName(s), may && c != "'", "SheetName", s)
		}
	}
}

func TestSheetNameOfEachLength(t *testing.T) {
	for n := range 100 {
		for _, c := range []string{"a", " ", "1", "!"} {
			is(t, cells.SheetName(strings.Repeat(c, n)), n >= 1 && n <= 31, "SheetName", c, n)
		}
	}
	is(t, cells.SheetName(strings.Repeat("a", 1<<20)), false, "SheetName of many")
	is(t, cells.SheetName(strings.Repeat("\xc3\xb1", 15)), false, "SheetName of other letters")
}

func TestQuote(t *testing.T) {
	for _, s := range []string{"a", "Z", "_", "A1", "a1", "_1", "__", "My", "TRUE", "R1C1", "a_b", "zZ09_", strings.Repeat("n", 31), strings.Repeat("n", 32), strings.Repeat("n", 1000), "a" + strings.Repeat("9", 1000)} {
		is(t, cells.Quote(s), s, "Quote", s)
	}
	for s, want := range map[string]string{
		"":        "''",
		"'":       "''''",
		"''":      "''''''",
		"a b":     "'a b'",
		"1":       "'1'",
		"1a":      "'1a'",
		"0":       "'0'",
		"9_":      "'9_'",
		"a'b":     "'a''b'",
		"a''b":    "'a''''b'",
		"'a":      "'''a'",
		"a'":      "'a'''",
		"'a'":     "'''a'''",
		" a":      "' a'",
		"a ":      "'a '",
		" ":       "' '",
		"a.b":     "'a.b'",
		"a$b":     "'a$b'",
		"$a":      "'$a'",
		"a!b":     "'a!b'",
		"a-b":     "'a-b'",
		`"`:       `'"'`,
		"a:b":     "'a:b'",
		"[]":      "'[]'",
		"@a":      "'@a'",
		"a\x00":   "'a\x00'",
		"\n":      "'\n'",
		"a\n":     "'a\n'",
		"\xff":    "'\xff'",
		"a\xff'":  "'a\xff'''",
		"a\x80b":  "'a\x80b'",
		"\u00f1":  "'\u00f1'",
		"a\u00f1": "'a\u00f1'",
		"\u00e0b": "'\u00e0b'",
		"\uff21":  "'\uff21'",
		"a\u0661": "'a\u0661'",
	} {
		is(t, cells.Quote(s), want, "Quote", s)
	}
	is(t, cells.Quote(strings.Repeat("'", 1000)), strings.Repeat("'", 2002), "Quote of many")
	is(t, cells.Quote(strings.Repeat(" ", 1000)), "'"+strings.Repeat(" ", 1000)+"'", "Quote of many")
}

// TestQuoteOfEachByte asks each byte alone, at each end and within.
func TestQuoteOfEachByte(t *testing.T) {
	for b := range 256 {
		c := string([]byte{byte(b)})
		for _, s := range []string{c, c + "a", "a" + c, "a" + c + "b", "_" + c + "9"} {
			is(t, cells.Quote(s), modelQuote(s), "Quote", s)
		}
	}
}

func TestNamesByModel(t *testing.T) {
	r := rand.New(rand.NewSource(1003))
	right := 0
	for range 50000 {
		s := anyName(r)
		is(t, cells.SheetName(s), modelName(s), "SheetName", s)
		is(t, cells.Quote(s), modelQuote(s), "Quote", s)
		if modelName(s) {
			right++
		}
	}
	if right < 5000 || right > 45000 {
		t.Errorf("%d of the names are right", right)
	}
	for _, s := range texts(5, "a", "9", "'", "_", ":", " ") {
		is(t, cells.SheetName(s), modelName(s), "SheetName", s)
		is(t, cells.Quote(s), modelQuote(s), "Quote", s)
	}
}
