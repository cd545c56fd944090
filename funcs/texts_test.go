package funcs_test

import (
	"math"
	"strings"
	"testing"

	"quire/api"
)

// P1601: the functions of texts.

// long is a text of n bytes.
func long(n int) api.Value { return text(strings.Repeat("a", n)) }

func TestPieces(t *testing.T) {
	ask(t, 0, "LEN", "")
	ask(t, 3, "LEN", "'añb")
	ask(t, 2, "LEN", text("你\U0010ffff"))
	ask(t, 4, "LEN", true)
	ask(t, 4, "LEN", "-0.5")
	ask(t, 37, "LEN", num(math.MaxInt64, 18))
	ask(t, 255, "LEN", long(255))
	ask(t, fail(api.ENA), "LEN", "#N/A")

	s := "'añ你\U0010ffff"
	for n, want := range []string{"'", "'a", "'añ", "'añ你", s, s, s} {
		ask(t, value(want), "LEFT", s, n)
	}
	for n, want := range []string{"'", "'\U0010ffff", "'你\U0010ffff", "'ñ你\U0010ffff", s, s, s} {
		ask(t, value(want), "RIGHT", s, n)
	}
	ask(t, "'a", "LEFT", s)
	ask(t, "'\U0010ffff", "RIGHT", s)
	ask(t, text(""), "LEFT", "")
	ask(t, text(""), "RIGHT", "")
	ask(t, text(""), "LEFT", s, "")
	ask(t, text("1"), "LEFT", 12)
	ask(t, text("2"), "RIGHT", 12)
	ask(t, text("TR"), "LEFT", true, 2)
	ask(t, fail(api.EValue), "LEFT", s, -1)
	ask(t, fail(api.EValue), "RIGHT", s, -1)
	ask(t, fail(api.EValue), "LEFT", "", -1)
	ask(t, fail(api.EValue), "RIGHT", "", -1)
	ask(t, fail(api.EValue), "RIGHT", s, -9007199254740992)

	ask(t, "'añ", "MID", s, 1, 2)
	ask(t, "'ñ你", "MID", s, 2, 2)
	ask(t, "'\U0010ffff", "MID", s, 4, 2)
	ask(t, text(""), "MID", s, 5, 2)
	ask(t, text(""), "MID", s, 6, 2)
	ask(t, text(""), "MID", s, 1, 0)
	ask(t, text(""), "MID", "", 1, 1)
	ask(t, s, "MID", s, 1, 9007199254740992)
	ask(t, text(""), "MID", s, 9007199254740992, 9007199254740992)
	ask(t, fail(api.EValue), "MID", s, 0, 2)
	ask(t, fail(api.EValue), "MID", s, -1, 2)
	ask(t, fail(api.EValue), "MID", s, 0, 0)
	ask(t, fail(api.EValue), "MID", s, 1, -1)
	ask(t, fail(api.EValue), "MID", "", 9, -1)
	ask(t, fail(api.EValue), "MID", s, -9007199254740992, 9007199254740992)
}

func TestTurns(t *testing.T) {
	ask(t, "'AñB1", "UPPER", "'añB1")
	ask(t, "'aÑb1", "LOWER", "'AÑb1")
	ask(t, "'a b", "TRIM", "'  a   b ")
	ask(t, text("\ta"), "TRIM", text(" \ta "))
	ask(t, text(""), "TRIM", text("   "))
	ask(t, text("true"), "LOWER", true)
	ask(t, text("1.5"), "UPPER", "1.5")
	ask(t, text(""), "LOWER", "")
	ask(t, fail(api.ENA), "TRIM", "#N/A")
	ask(t, long(255), "LOWER", text(strings.Repeat("A", 255)))

	ask(t, true, "EXACT", "'a", "'a")
	ask(t, false, "EXACT", "'a", "'A")
	ask(t, true, "EXACT", 1, "'1")
	ask(t, true, "EXACT", "", text(""))
	ask(t, true, "EXACT", true, "'TRUE")
	ask(t, false, "EXACT", true, "'true")
	ask(t, fail(api.ENA), "EXACT", "#N/A", "#N/A")

	ask(t, 12, "VALUE", "'12")
	ask(t, "-0.5", "VALUE", "' -0.5 ")
	ask(t, 12, "VALUE", 12)
	ask(t, num(math.MinInt64, 18), "VALUE", num(math.MinInt64, 18))
	ask(t, num(math.MinInt64, -18), "VALUE", num(math.MinInt64, -18))
	ask(t, fail(api.EValue), "VALUE", true)
	ask(t, fail(api.EValue), "VALUE", "")
	ask(t, fail(api.EValue), "VALUE", text(""))
	ask(t, fail(api.EValue), "VALUE", "'1x")
	ask(t, fail(api.ENum), "VALUE", "'1e400")
	ask(t, fail(api.ENA), "VALUE", "#N/A")
}

func TestConcat(t *testing.T) {
	ask(t, "'a1TRUE-0.5", "CONCAT", "'a", 1, true, "", text(""), "-0.5")
	ask(t, "'abcd", "CONCAT", area(2, 2, "'a", "'b", "'c", "'d"))
	ask(t, "'x1FALSEy", "CONCAT", row("'x", 1, ""), column(false, "'y"))
	ask(t, text(""), "CONCAT", "")
	ask(t, text(""), "CONCAT", full(64, 512, ""), text(""))
	ask(t, fail(api.EDiv), "CONCAT", "'a", row("'b", "#DIV/0!", "#N/A"), "#REF!")
	ask(t, long(255), "CONCAT", long(200), long(55))
	ask(t, fail(api.EValue), "CONCAT", long(200), long(56))
	ask(t, fail(api.EValue), "CONCAT", long(255), "'ñ")
	ask(t, fail(api.EValue), "CONCAT", times(32, full(64, 512, long(255)))...)
	ask(t, long(255), "CONCAT", full(51, 5, "'a"))
	ask(t, fail(api.EValue), "CONCAT", full(64, 4, "'a"))
	ask(t, fail(api.ENA), "CONCAT", full(64, 4, "'a"), row("#N/A"))
	ask(t, long(255), "CONCAT", long(255), full(64, 512, ""))
}

func TestFind(t *testing.T) {
	ask(t, 1, "FIND", "'a", "'aña")
	ask(t, 3, "FIND", "'a", "'aña", 2)
	ask(t, 3, "FIND", "'a", "'aña", 3)
	ask(t, 2, "FIND", "'ñ", "'aña")
	ask(t, 3, "FIND", text("\U0010ffff"), text("你ñ\U0010ffff"))
	ask(t, 2, "FIND", "'aa", "'baaa")
	ask(t, 3, "FIND", "'aa", "'baaa", 3)
	ask(t, fail(api.EValue), "FIND", "'aa", "'baaa", 4)
	ask(t, fail(api.EValue), "FIND", "'A", "'aña")
	ask(t, fail(api.EValue), "FIND", "'abc", "'ab")
	ask(t, 2, "FIND", 2, 12)
	ask(t, 3, "FIND", "'U", true)
	ask(t, 1, "FIND", "'a", "'aña", "1.9")
	// The empty text stands everywhere, behind the last character too.
	for n := 1; n <= 4; n++ {
		ask(t, n, "FIND", text(""), "'aña", n)
		ask(t, n, "FIND", "", "'aña", n)
	}
	ask(t, 1, "FIND", text(""), text(""))
	ask(t, 1, "FIND", "", "", 1)
	for _, beyond := range []any{0, -1, 5, 6, "0.5", "", false, 9007199254740992, -9007199254740992} {
		ask(t, fail(api.EValue), "FIND", text(""), "'aña", beyond)
		ask(t, fail(api.EValue), "FIND", "'a", "'aña", beyond)
	}
	ask(t, fail(api.EValue), "FIND", "'a", "'aña", 4)
	ask(t, fail(api.EValue), "FIND", "", "", 2)
	ask(t, fail(api.EValue), "FIND", "'a", "")
}

func TestSubstitute(t *testing.T) {
	ask(t, "'a-b-c", "SUBSTITUTE", "'aXbXc", "'X", "'-")
	ask(t, "'abc", "SUBSTITUTE", "'aXbXc", "'X", "")
	ask(t, "'aXbXc", "SUBSTITUTE", "'aXbXc", "'x", "'-")
	for n, want := range []any{fail(api.EValue), "'a-bXcX", "'aXb-cX", "'aXbXc-", "'aXbXcX", "'aXbXcX"} {
		ask(t, want, "SUBSTITUTE", "'aXbXcX", "'X", "'-", n)
	}
	// Places that run into each other.
	ask(t, "'bba", "SUBSTITUTE", "'aaaaa", "'aa", "'b")
	ask(t, "'baaa", "SUBSTITUTE", "'aaaaa", "'aa", "'b", 1)
	ask(t, "'aaba", "SUBSTITUTE", "'aaaaa", "'aa", "'b", 2)
	ask(t, "'aaaaa", "SUBSTITUTE", "'aaaaa", "'aa", "'b", 3)
	ask(t, "'xbaba", "SUBSTITUTE", "'abababa", "'aba", "'x", 1)
	ask(t, "'abaxba", "SUBSTITUTE", "'ababaxba", "'ba", "", 1)
	ask(t, "'xbx", "SUBSTITUTE", "'abababa", "'aba", "'x")
	ask(t, "'aaaa", "SUBSTITUTE", "'aa", "'a", "'aa")
	ask(t, "'a你b", "SUBSTITUTE", "'añb", "'ñ", "'你")
	// The empty text is nowhere.
	ask(t, "'abc", "SUBSTITUTE", "'abc", "", "'-")
	ask(t, "'abc", "SUBSTITUTE", "'abc", text(""), "'-", 1)
	ask(t, "'abc", "SUBSTITUTE", "'abc", text(""), "'-", 9007199254740992)
	ask(t, text(""), "SUBSTITUTE", "", "'a", "'-")
	ask(t, text(""), "SUBSTITUTE", "", "", "'-")
	ask(t, text("1.5"), "SUBSTITUTE", "1.5", "", "'-")
	ask(t, text("1-5"), "SUBSTITUTE", "1.5", "'.", "'-")
	for _, below := range []any{0, -1, "0.9", "", false, -9007199254740992} {
		ask(t, fail(api.EValue), "SUBSTITUTE", "'aXb", "'X", "'-", below)
		ask(t, fail(api.EValue), "SUBSTITUTE", "'aXb", "'?", "'-", below)
		ask(t, fail(api.EValue), "SUBSTITUTE", "'aXb", "", "'-", below)
	}
	// What comes may be too long.
	ask(t, long(255), "SUBSTITUTE", text(strings.Repeat("b", 51)), "'b", "'aaaaa")
	ask(t, fail(api.EValue), "SUBSTITUTE", text(strings.Repeat("b", 52)), "'b", "'aaaaa")
	ask(t, fail(api.EValue), "SUBSTITUTE", long(255), "'a", long(255))
	ask(t, fail(api.EValue), "SUBSTITUTE", long(255), "'a", "'bb", 255)
	ask(t, long(255), "SUBSTITUTE", long(255), "'a", "'bb", 256)
	ask(t, "'bb", "SUBSTITUTE", long(255), long(255), "'bb", 1)
}

func TestRept(t *testing.T) {
	ask(t, "'ababab", "REPT", "'ab", 3)
	ask(t, text(""), "REPT", "'ab", 0)
	ask(t, text(""), "REPT", "'ab", "0.9")
	ask(t, text("111"), "REPT", 1, 3)
	ask(t, long(255), "REPT", "'a", 255)
	ask(t, long(255), "REPT", "'aaa", 85)
	ask(t, long(254), "REPT", "'aa", 127)
	ask(t, text(strings.Repeat("你", 85)), "REPT", "'你", 85)
	ask(t, long(255), "REPT", long(255), 1)
	ask(t, text(""), "REPT", long(255), 0)
	for _, many := range []any{256, 9007199254740992} {
		ask(t, fail(api.EValue), "REPT", "'a", many)
		ask(t, text(""), "REPT", text(""), many)
		ask(t, text(""), "REPT", "", many)
	}
	ask(t, fail(api.EValue), "REPT", "'aa", 128)
	ask(t, fail(api.EValue), "REPT", "'aaa", 86)
	ask(t, fail(api.EValue), "REPT", "'你", 86)
	ask(t, fail(api.EValue), "REPT", long(128), 2)
	ask(t, fail(api.EValue), "REPT", "'a", -1)
	ask(t, fail(api.EValue), "REPT", "", -1)
	ask(t, fail(api.EValue), "REPT", "'a", "-0.1")
	ask(t, fail(api.ENum), "REPT", "", "1e18")
}

func TestText(t *testing.T) {
	ask(t, "'1,234.50", "TEXT", "1234.5", "'#,##0.00")
	ask(t, "'26%", "TEXT", "0.256", "'0%")
	ask(t, text("12"), "TEXT", 12, "'General")
	ask(t, text("TRUE"), "TEXT", true, "'0.00")
	ask(t, text(""), "TEXT", "", "'0.00")
	ask(t, "'abc", "TEXT", "'abc", "'0.00")
	ask(t, text("12"), "TEXT", "'12", "'0.00")
	ask(t, "'<a>", "TEXT", "'a", `';;;"<"@">"`)
	ask(t, text("3"), "TEXT", "2.5", 0)
	ask(t, text(""), "TEXT", "2.5", "")
	ask(t, "'a", "TEXT", "'a", text(""))
	for _, none := range []any{"'?", "'0;0;0;0;0", "'general", "'#0#", "'TRUE", true, "'0.0000000000000000000", 1, text(strings.Repeat("0", 65)), text("ñ")} {
		ask(t, fail(api.EValue), "TEXT", 1, none)
		ask(t, fail(api.EValue), "TEXT", "'a", none)
		ask(t, fail(api.ENA), "TEXT", "#N/A", none)
	}
	ask(t, fail(api.ENA), "TEXT", "#N/A", "#REF!")
	ask(t, fail(api.ERef), "TEXT", 1, "#REF!")
	ask(t, fail(api.ENA), "TEXT", "#N/A", "'0")
	ask(t, fail(api.ENA), "TEXT", "#N/A", "'General")
	ask(t, long(255), "TEXT", long(85), "';;;@@@")
	ask(t, fail(api.EValue), "TEXT", long(86), "';;;@@@")
}
