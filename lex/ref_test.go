package lex_test

import (
	"strings"
	"testing"

	"quire/api"
)

// P1101: what begins with a letter, `_`, `$` or `'`

func TestRef(t *testing.T) {
	reads(t, "A1", ref(0, "", 1, 1, ""))
	reads(t, "$A1", ref(0, "", 1, 1, "c"))
	reads(t, "A$1", ref(0, "", 1, 1, "r"))
	reads(t, "$A$1", ref(0, "", 1, 1, "cr"))
	reads(t, "BL512", ref(0, "", 64, 512, ""))
	reads(t, "$BL$512", ref(0, "", 64, 512, "cr"))
	reads(t, "E5", ref(0, "", 5, 5, ""))
	reads(t, "A1:B2", ref(0, "", 1, 1, ""), mark(2, ":"), ref(3, "", 2, 2, ""))
	reads(t, "A1 B2", ref(0, "", 1, 1, ""), ref(3, "", 2, 2, ""))
	reads(t, "A1+$B2%", ref(0, "", 1, 1, ""), mark(2, "+"), ref(3, "", 2, 2, "c"), mark(6, "%"))
	reads(t, `A1"x"`, ref(0, "", 1, 1, ""), text(2, "x"))
	reads(t, "A1'a b'!B2", ref(0, "", 1, 1, ""), ref(2, "a b", 2, 2, ""))
	reads(t, "A1)", ref(0, "", 1, 1, ""), mark(2, ")"))
}

func TestRefThatIsNotThere(t *testing.T) {
	for _, s := range []string{"A513", "A9999999", "BM1", "ZZ1", "AAA1", "XFD1", "ZZZ9999999", "LOG10", "$BM1", "BM$1", "$A$513", "$ZZZ$9999999"} {
		refuses(t, s, 0, api.ErrRef)
		refuses(t, "1+"+s, 2, api.ErrRef)
		refuses(t, s+" (1)", 0, api.ErrRef)
		refuses(t, s+")", 0, api.ErrRef)
		refuses(t, s+":A1", 0, api.ErrRef)
		refuses(t, "A1:"+s, 3, api.ErrRef)
		refuses(t, "S!"+s, 0, api.ErrRef)
		refuses(t, "'a b'!"+s, 0, api.ErrRef)
		refuses(t, "x S!"+s+"(", 2, api.ErrRef)
	}
}

// TestRefCalled asks what a `(` at once behind a run makes of it, and one behind a blank.
func TestRefCalled(t *testing.T) {
	reads(t, "A1(", name(0, "A1"), mark(2, "("))
	reads(t, "LOG10(", name(0, "LOG10"), mark(5, "("))
	reads(t, "BM1()", name(0, "BM1"), mark(3, "("), mark(4, ")"))
	reads(t, "A1 (", ref(0, "", 1, 1, ""), mark(3, "("))
	reads(t, "x(", name(0, "x"), mark(1, "("))
	reads(t, "x (", name(0, "x"), mark(2, "("))
	reads(t, "A1.5(", name(0, "A1.5"), mark(4, "("))
	reads(t, "S!A1(", ref(0, "S", 1, 1, ""), mark(4, "("))
	reads(t, "'a b'!A1(", ref(0, "a b", 1, 1, ""), mark(8, "("))
	for _, s := range []string{"$A1(", "A$1(", "$A$1(", "$ZZ1(", "A$513(", "$x(", "x$("} {
		refuses(t, s, 0, api.ErrSyntax)
		refuses(t, "A1 "+s+"1)", 3, api.ErrSyntax)
	}
	reads(t, "$A1 (", ref(0, "", 1, 1, "c"), mark(4, "("))
	refuses(t, "$ZZ1 (", 0, api.ErrRef)
}

// TestDollars asks runs with `$` that are no cells.
func TestDollars(t *testing.T) {
	for _, s := range []string{"$", "$$", "$A", "A$", "$1", "$A$", "$$A1", "A$$1", "A1$", "A1$1", "$a1", "a$1", "$A0", "A$0", "A$01", "$AAAA1", "A$12345678", "$_", "x$", "$x", "$A1.5", "$A1_", "$.", "a.$b", "$A1B", "$TRUE"} {
		refuses(t, s, 0, api.ErrSyntax)
		refuses(t, "x+"+s+"+?", 2, api.ErrSyntax)
		refuses(t, s+"!A1", 0, api.ErrSyntax)
	}
}

func TestRefOnSheet(t *testing.T) {
	reads(t, "S!A1", ref(0, "S", 1, 1, ""))
	reads(t, "S!$A1", ref(0, "S", 1, 1, "c"))
	reads(t, "S!A$1", ref(0, "S", 1, 1, "r"))
	reads(t, "S!$BL$512", ref(0, "S", 64, 512, "cr"))
	reads(t, "_!A1", ref(0, "_", 1, 1, ""))
	reads(t, "_9z!A1", ref(0, "_9z", 1, 1, ""))
	reads(t, "A1!B2", ref(0, "A1", 2, 2, ""))
	reads(t, "ZZ1!B2", ref(0, "ZZ1", 2, 2, ""))
	reads(t, "TRUE!B2", ref(0, "TRUE", 2, 2, ""))
	reads(t, "my!B2", ref(0, "my", 2, 2, ""))
	reads(t, "S!A1:B2", ref(0, "S", 1, 1, ""), mark(4, ":"), ref(5, "", 2, 2, ""))
	reads(t, "S!A1:S!B2", ref(0, "S", 1, 1, ""), mark(4, ":"), ref(5, "S", 2, 2, ""))
	reads(t, "S!A1a", ref(0, "S", 1, 1, ""), name(4, "a"))
	reads(t, "S!A1_", ref(0, "S", 1, 1, ""), name(4, "_"))
	reads(t, "S!A1x!B2", ref(0, "S", 1, 1, ""), ref(4, "x", 2, 2, ""))
	reads(t, `S!A1"x"`, ref(0, "S", 1, 1, ""), text(4, "x"))
	reads(t, strings.Repeat("n", 31)+"!A1", ref(0, strings.Repeat("n", 31), 1, 1, ""))
	refuses(t, strings.Repeat("n", 32)+"!A1", 0, api.ErrSyntax)
	refuses(t, "S!A1.", 4, api.ErrSyntax)
	refuses(t, "S!A1!", 4, api.ErrSyntax)
	refuses(t, "S!A1!B2", 4, api.ErrSyntax)
	for _, s := range []string{"S!", "S! ", "S!!", "S!x", "S!a1", "S!_", "S!A", "S!1", "S!$", "S!A0", "S!A01", "S!A$", "S!$$A1", "S!AAAA1", "S!A12345678", "S!A1B2", "S!A1$", "S!#REF!", "S!'a b'!A1", "S!S!A1", `S!"A1"`, "S!(A1)", "S!.", "A1!", "x!", "TRUE!", "S!\xff", "S!:A1", "S!A:A1"} {
		refuses(t, s, 0, api.ErrSyntax)
		refuses(t, " A1+"+s, 4, api.ErrSyntax)
	}
}

// TestPointsAndDollarsAheadOfSheets asks runs that no sheet's name is, with a `!` behind: the run is read alone.
func TestPointsAndDollarsAheadOfSheets(t *testing.T) {
	refuses(t, "a.b!A1", 3, api.ErrSyntax)
	refuses(t, "a.!A1", 2, api.ErrSyntax)
	refuses(t, "A1.5!A1", 4, api.ErrSyntax)
	refuses(t, "$A$1!A1", 4, api.ErrSyntax)
	refuses(t, "A$1!A1", 3, api.ErrSyntax)
	refuses(t, "$A1!", 3, api.ErrSyntax)
	refuses(t, "$ZZ1!A1", 0, api.ErrRef)
	refuses(t, "$S!A1", 0, api.ErrSyntax)
	refuses(t, "S$!A1", 0, api.ErrSyntax)
	refuses(t, "a.$b!A1", 0, api.ErrSyntax)
	refuses(t, "!A1", 0, api.ErrSyntax)
	refuses(t, "!", 0, api.ErrSyntax)
}

func TestRefOnQuotedSheet(t *testing.T) {
	reads(t, "'a b'!A1", ref(0, "a b", 1, 1, ""))
	reads(t, "'a b'!$A1", ref(0, "a b", 1, 1, "c"))
	reads(t, "'a b'!A$1", ref(0, "a b", 1, 1, "r"))
	reads(t, "'a b'!$BL$512", ref(0, "a b", 64, 512, "cr"))
	reads(t, "' '!A1", ref(0, " ", 1, 1, ""))
	reads(t, "'1'!A1", ref(0, "1", 1, 1, ""))
	reads(t, "'it''s'!A1", ref(0, "it's", 1, 1, ""))
	reads(t, "'a''''b'!A1", ref(0, "a''b", 1, 1, ""))
	reads(t, "'a!b'!A1", ref(0, "a!b", 1, 1, ""))
	reads(t, "'!'!A1", ref(0, "!", 1, 1, ""))
	reads(t, "'a''!A1'!B2", ref(0, "a'!A1", 2, 2, ""))
	reads(t, "'a.b'!A1", ref(0, "a.b", 1, 1, ""))
	reads(t, "'$A$1'!A1", ref(0, "$A$1", 1, 1, ""))
	reads(t, `'"'!A1`, ref(0, `"`, 1, 1, ""))
	reads(t, "'#REF!'!A1", ref(0, "#REF!", 1, 1, ""))
	reads(t, "'a b'!A1'c d'!B2", ref(0, "a b", 1, 1, ""), ref(8, "c d", 2, 2, ""))
	reads(t, "'a b'!A1:B2", ref(0, "a b", 1, 1, ""), mark(8, ":"), ref(9, "", 2, 2, ""))
	reads(t, "'a b'!A1x", ref(0, "a b", 1, 1, ""), name(8, "x"))
	reads(t, "'"+strings.Repeat("-", 31)+"'!A1", ref(0, strings.Repeat("-", 31), 1, 1, ""))
	reads(t, "'a"+strings.Repeat("''", 29)+"b'!A1", ref(0, "a"+strings.Repeat("'", 29)+"b", 1, 1, ""))
	refuses(t, "'a b'!A1!", 8, api.ErrSyntax)
	refuses(t, "'a b'!A1.", 8, api.ErrSyntax)
}

func TestQuotedSheetThatIsWrong(t *testing.T) {
	for _, s := range []string{
		"'", "''", "'''", "''''", "'a", "'a b", "'a b!A1", "'a b''", "'a b''!A1", "'a b'''", "'it''s!A1", "'''!A1", "'a' b'!A1", strings.Repeat("'", 500),
		"'a b'", "'a b' ", "'a b'A1", "'a b'x", "'a b'.", "'a b'(", "'a b':A1", "'a b'?", `'a b'"!"A1`,
		"'a b'!", "'a b'!!", "'a b'! A1", "'a b'!x", "'a b'!a1", "'a b'!A", "'a b'!1", "'a b'!$", "'a b'!A0", "'a b'!A01", "'a b'!$$A1", "'a b'!AAAA1", "'a b'!A12345678", "'a b'!A1B2", "'a b'!A1$", "'a b'!#REF!", "'a b'!S!A1", "'a b'!'c'!A1",
		"'S'!A1", "'A1'!A1", "''!A1", "''''!A1", "'''a'!A1", "'a'''!A1", "'a:b'!A1", "'a/b'!A1", `'a\b'!A1`, "'a?'!A1", "'a*'!A1", "'[a]'!A1", "'a\tb'!A1", "'a\x00b'!A1", "'a\x7f'!A1", "'\u00f1'!A1", "'\xff'!A1", "'" + strings.Repeat("-", 32) + "'!A1", "'" + strings.Repeat("-", 400) + "'!A1", "'S'!ZZ1",
	} {
		refuses(t, s, 0, api.ErrSyntax)
		refuses(t, "A1 + "+s, 5, api.ErrSyntax)
	}
}

func TestName(t *testing.T) {
	for _, s := range []string{"x", "X", "_", "tax", "SUM", "a1", "a_b", "a.b", "a.", "a..b", "_.", "_1", "x9", "E", "e5", "R1C1", "A", "BL", "ABCD1", "A0", "A01", "A12345678", "A1.5", "A1.", "A1_", "A1x", "A1A1", "TRUE", "FALSE", "true", "false", "zz1", "Aa1", "LOG10x", "LOG10.", strings.Repeat("n", 100), "A" + strings.Repeat("1", 100)} {
		reads(t, s, name(0, s))
		reads(t, "  "+s+" ", name(2, s))
		reads(t, s+"(", name(0, s), mark(len(s), "("))
		reads(t, s+"+1", name(0, s), mark(len(s), "+"), num(len(s)+1, 1, 0))
		reads(t, s+`"y"`, name(0, s), text(len(s), "y"))
		refuses(t, s+"\xff", len(s), api.ErrSyntax)
		refuses(t, s+"\u00f1", len(s), api.ErrSyntax)
	}
	reads(t, "x y", name(0, "x"), name(2, "y"))
	reads(t, "x'a b'!A1", name(0, "x"), ref(1, "a b", 1, 1, ""))
	refuses(t, "x?", 1, api.ErrSyntax)
	refuses(t, `x\y`, 1, api.ErrSyntax)
	refuses(t, "x[1]", 1, api.ErrSyntax)
	refuses(t, "x y!", 2, api.ErrSyntax)
}
