package cells_test

import (
	"math/rand"
	"strconv"
	"strings"
	"testing"

	"quire/api"
	"quire/cells"
)

// P1002

// spelt are references as they are written.
var spelt = []struct {
	s string
	r api.Ref
}{
	{"A1", cell("", 1, 1)},
	{"$A1", dollars(cell("", 1, 1), true, false)},
	{"A$1", dollars(cell("", 1, 1), false, true)},
	{"$A$1", dollars(cell("", 1, 1), true, true)},
	{"B$2", dollars(cell("", 2, 2), false, true)},
	{"Z9", cell("", 26, 9)},
	{"AA10", cell("", 27, 10)},
	{"AZ99", cell("", 52, 99)},
	{"BA100", cell("", 53, 100)},
	{"BL512", cell("", 64, 512)},
	{"$BL$512", dollars(cell("", 64, 512), true, true)},
	{"BK511", cell("", 63, 511)},
	{"My!A1", cell("My", 1, 1)},
	{"my!A1", cell("my", 1, 1)},
	{"_!A1", cell("_", 1, 1)},
	{"_9!A1", cell("_9", 1, 1)},
	{"A1!A1", cell("A1", 1, 1)},
	{"BL512!$BL$512", dollars(cell("BL512", 64, 512), true, true)},
	{"TRUE!C$3", dollars(cell("TRUE", 3, 3), false, true)},
	{"'a b'!A1", cell("a b", 1, 1)},
	{"'a b'!$A$1", dollars(cell("a b", 1, 1), true, true)},
	{"' '!A1", cell(" ", 1, 1)},
	{"'1'!A1", cell("1", 1, 1)},
	{"'1a'!A1", cell("1a", 1, 1)},
	{"'a''b'!A1", cell("a'b", 1, 1)},
	{"'a''''b'!A1", cell("a''b", 1, 1)},
	{"'a''b''c'!$B2", dollars(cell("a'b'c", 2, 2), true, false)},
	{"'!'!A1", cell("!", 1, 1)},
	{"'a!b'!A1", cell("a!b", 1, 1)},
	{"'S!A1'!A1", cell("S!A1", 1, 1)},
	{"'S'' !A1'!B2", cell("S' !A1", 2, 2)},
	{"'a.b'!A1", cell("a.b", 1, 1)},
	{"'$'!A1", cell("$", 1, 1)},
	{"'#REF!'!A1", cell("#REF!", 1, 1)},
	{strings.Repeat("n", 31) + "!A1", cell(strings.Repeat("n", 31), 1, 1)},
	{"'" + strings.Repeat("-", 31) + "'!A1", cell(strings.Repeat("-", 31), 1, 1)},
	{"'a" + strings.Repeat("''", 29) + "b'!A1", cell("a"+strings.Repeat("'", 29)+"b", 1, 1)},
}

func TestPrint(t *testing.T) {
	for _, x := range spelt {
		is(t, cells.Print(x.r), x.s, "Print", x.r)
	}
	for _, r := range notRight() {
		is(t, cells.Print(r), "#REF!", "Print", r)
	}
}

func TestParse(t *testing.T) {
	for _, x := range spelt {
		is(t, parse(x.s), parsed{R: x.r}, "Parse", x.s)
	}
}

// notSpelt are texts that are no references, though some are such in other programs.
var notSpelt = []string{
	"", " ", "$", "$$", "!", "'", "''", ":", "A", "$A", "1", "$1", "AA", "BL", "512", "A$", "$A$", "#REF!", "TRUE", "R1C1", "?",
	"A0", "A00", "A01", "A001", "A0512", "A0000001", "A00000001", "$A$0", "A$0", "A$01", "ZZ0", "ZZZ0", "ZZ01", "BM0",
	"A12345678", "A00000000", "A99999999", "A123456789012345678901234567890", "ZZ12345678", "A" + strings.Repeat("1", 1000),
	"AAAA1", "ABCD1", "AAAA0", "AAAA513", "ZZZZ1", "$AAAA$1", "S!AAAA1", strings.Repeat("A", 1000) + "1",
	"a1", "bl512", "Aa1", "aA1", "$a$1", "S!a1", "zz1", "zz999",
	" A1", "A1 ", "A 1", "$ A1", "A$ 1", "\tA1", "A1\n", "A1\x00", "\x00A1", "\nA1", "A\n1", "S! A1", "S !A1", " S!A1", "S!A1 ", " 'a b'!A1", "'a b' !A1", "'a b'! A1",
	"$$A1", "A$$1", "$$A$$1", "A1$", "$A1$", "A1$1", "A$1$", "A$A1", "AA$", "$1A", "1A", "1$A", "A1A", "A1A1", "$S!A1", "S$!A1", "S!$$A1", "S!A$$1", "$'a b'!A1", "'a b'$!A1",
	"A+1", "A-1", "A1.", "A1.0", "A1e2", "A1E2", "A1,", "A1:", ":A1", "A1:B2", "A1:A1", "A1#", "(A1)", "-A1", "+A1", "=A1", "@A1", "A@1", "A[1", "A/1", "A:1", "A_1", "_1", "A1_",
	"!A1", "!!A1", "S!", "S!!", "S!!A1", "S!S!A1", "S!A1!A1", "S!A1!", "!S!A1", "A1!", "S", "S!$", "S!A", "S!1", "S!#REF!", "S!'A1'", "S!A0", "S!A01", "S!AAAA1", "S!A12345678",
	"'", "'A1", "A1'", "'A1'", "'a b", "'a b!A1", "'a b''!A1", "'a b'", "'a b'A1", "'a b'!", "'a b'!!A1", "'a b'!'a b'!A1", "'a b'!S!A1", "'a b'!A1!", "'a b''", "'a b'''", "'a b'''!A1", "'a b''''!A1", "''a b'!A1", "'''a b'!A1", "'''a b'''!A1", "'a'b'!A1", "'a' b'!A1", "a'b!A1", "a''b!A1", "a'!A1", "'a b'x!A1", "x'a b'!A1", "'a b''x!A1", "'a''!A1", "'a''b!A1",
	"'S'!A1", "'My'!A1", "'_'!A1", "'a1'!A1", "'TRUE'!A1", "'" + strings.Repeat("n", 31) + "'!A1",
	"''!A1", "'''!A1", "''''!A1", "'''''!A1", "''''''!A1", "''A1", "'!A1", "''!!A1",
	"a b!A1", "1!A1", "1a!A1", "a.b!A1", "a$!A1", "a-b!A1", "a!b!A1", "a\xc3\xb1!A1", "\xc3\xb1!A1", "[a]!A1", "a:b!A1", `a\b!A1`, "a?!A1", "*!A1", "a/b!A1", "a\x00!A1", "\x7f!A1", "\xff!A1",
	"'a:b'!A1", `'a\b'!A1`, "'a/b'!A1", "'a?b'!A1", "'a*b'!A1", "'a[b'!A1", "'a]b'!A1", "'[a b]c'!A1", "'a\x1fb'!A1", "'a\tb'!A1", "'a\nb'!A1", "'a\x7fb'!A1", "'a\x80b'!A1", "'\xff'!A1", "'\xc3\xb1'!A1", "'a\x00b'!A1",
	strings.Repeat("n", 32) + "!A1", "'" + strings.Repeat("-", 32) + "'!A1", "'" + strings.Repeat("n", 32) + "'!A1", "'a" + strings.Repeat("''", 30) + "b'!A1", strings.Repeat("n", 1000) + "!A1", "'" + strings.Repeat(" ", 1000) + "'!A1",
	"\xef\xbc\xa11", "A\xef\xbc\x91", "A\xd9\xa1", "\xce\x911", "\xef\xbb\xbfA1", "A1\xff", "\xffA1", "A\xff1", "A1\xc2\xa0", "\xe2\x80\x98a b\xe2\x80\x99!A1", "S\xef\xbc\x81A1",
	"'a b'!A0", "'a b'!AAAA1", "'S'!ZZ1", "''!ZZ1", "'a:b'!A513", "a b!ZZ999", "!ZZ1", "zz513", // ErrSyntax, though there is no such cell
}

func TestParseOfOtherTexts(t *testing.T) {
	for _, s := range notSpelt {
		is(t, parse(s), parsed{E: api.ErrSyntax}, "Parse", s)
	}
}

// beyond are texts of cells that there are not.
var beyond = []string{
	"A513", "A514", "A600", "A999", "A1000", "A65537", "A999999", "A1000000", "A1234567", "A9999999", "A$513", "$A513", "$A$9999999",
	"BM1", "BN1", "BZ1", "CA1", "CL1", "ZZ1", "AAA1", "ABL1", "BLA1", "XFD1", "ZZZ1", "$BM1", "BM$1", "$ZZZ$1", "LOG10",
	"BM513", "ZZZ9999999", "BL513", "BM512", "S!A513", "S!BM1", "'a b'!A513", "'a b'!$ZZ$9999999", "'a''b'!BM1", "A1!BM1", strings.Repeat("n", 31) + "!A513",
}

func TestParseBeyond(t *testing.T) {
	for _, s := range beyond {
		is(t, parse(s), parsed{E: api.ErrRef}, "Parse", s)
	}
}

func TestParseOfEachColumnAndRow(t *testing.T) {
	of := numbers()
	for _, s := range columns {
		want := parsed{E: api.ErrRef}
		if of[s] > 0 {
			want = parsed{R: cell("", of[s], 7)}
		}
		is(t, parse(s+"7"), want, "Parse", s+"7")
	}
	for row := range 70000 {
		want := parsed{E: api.ErrRef}
		switch {
		case row == 0:
			want.E = api.ErrSyntax
		case row <= api.MaxRow:
			want = parsed{R: dollars(cell("", 3, row), true, false)}
		}
		s := "$C" + strconv.Itoa(row)
		is(t, parse(s), want, "Parse", s)
		is(t, parse("$C0"+strconv.Itoa(row)), parsed{E: api.ErrSyntax}, "Parse", "$C0", row)
	}
}

// TestParseByModel asks all short texts of what counts, and others that have one fault.
func TestParseByModel(t *testing.T) {
	of := numbers()
	for _, s := range texts(6, "A", "B", "a", "$", "0", "1", "!", "'", " ") {
		is(t, parse(s), modelParse(s, of), "Parse", s)
	}
	for _, s := range texts(7, "'", "a", " ", "!A1") {
		is(t, parse(s), modelParse(s, of), "Parse", s)
		is(t, parse("'"+s), modelParse("'"+s, of), "Parse", "'"+s)
	}
	r := rand.New(rand.NewSource(1002))
	for range 100000 {
		s := faulty(r, modelPrint(rightRef(r)))
		is(t, parse(s), modelParse(s, of), "Parse", s)
	}
}

// faulty is s, and now and then with a byte more, less, or another one.
func faulty(r *rand.Rand, s string) string {
	const signs = "AZaz_$!':09 \x00\xff"
	at, sign := r.Intn(len(s)), signs[r.Intn(len(signs))]
	switch r.Intn(4) {
	case 0:
		return s[:at] + string([]byte{sign}) + s[at:]
	case 1:
		return s[:at] + s[at+1:]
	case 2:
		return s[:at] + string([]byte{sign}) + s[at+1:]
	}
	return s
}

func TestPrintByModel(t *testing.T) {
	r := rand.New(rand.NewSource(1006))
	for range 20000 {
		x := anyRef(r)
		is(t, cells.Right(x), modelRight(x), "Right", x)
		is(t, cells.Print(x), modelPrint(x), "Print", x)
	}
}

func TestPrintRange(t *testing.T) {
	a, b := dollars(cell("", 1, 2), true, false), dollars(cell("", 3, 4), false, true)
	on := func(sheet string, r api.Ref) api.Ref {
		r.Sheet = sheet
		return r
	}
	tests := []struct {
		a, b api.Ref
		want string
	}{
		{a, b, "$A2:C$4"},
		{b, a, "C$4:$A2"},
		{a, a, "$A2:$A2"},
		{cell("", 1, 1), cell("", 64, 512), "A1:BL512"},
		{cell("", 64, 512), cell("", 1, 1), "BL512:A1"},
		{on("S", a), b, "S!$A2:C$4"},
		{on("S", a), on("S", b), "S!$A2:C$4"},
		{on("a b", a), b, "'a b'!$A2:C$4"},
		{on("a'b", a), on("a'b", b), "'a''b'!$A2:C$4"},
		{a, on("S", b), "#REF!"},
		{on("S", a), on("T", b), "#REF!"},
		{on("S", a), on("s", b), "#REF!"},
		{on("S", a), on("S ", b), "#REF!"},
		{on("S", a), on("'", b), "#REF!"},
		{on("'", a), on("'", b), "#REF!"},
		{on("'", a), b, "#REF!"},
		{a, on("'", b), "#REF!"},
		{on("a:b", a), on("a:b", b), "#REF!"},
	}
	for _, x := range tests {
		is(t, cells.PrintRange(x.a, x.b), x.want, "PrintRange", x.a, x.b)
	}
	for _, r := range notRight() {
		is(t, cells.PrintRange(r, b), "#REF!", "PrintRange", r, b)
		is(t, cells.PrintRange(r, on(r.Sheet, b)), "#REF!", "PrintRange", r, b)
		is(t, cells.PrintRange(a, r), "#REF!", "PrintRange", a, r)
		is(t, cells.PrintRange(on("S", a), r), "#REF!", "PrintRange", a, r)
		is(t, cells.PrintRange(on(r.Sheet, a), r), "#REF!", "PrintRange", a, r)
		is(t, cells.PrintRange(r, r), "#REF!", "PrintRange", r, r)
	}
}

func TestParseRange(t *testing.T) {
	tests := []struct {
		s    string
		a, b api.Ref
	}{
		{"A1:B2", cell("", 1, 1), cell("", 2, 2)},
		{"B2:A1", cell("", 2, 2), cell("", 1, 1)},
		{"A1:A1", cell("", 1, 1), cell("", 1, 1)},
		{"$A1:B$2", dollars(cell("", 1, 1), true, false), dollars(cell("", 2, 2), false, true)},
		{"A$1:$B2", dollars(cell("", 1, 1), false, true), dollars(cell("", 2, 2), true, false)},
		{"A1:BL512", cell("", 1, 1), cell("", 64, 512)},
		{"S!A1:B2", cell("S", 1, 1), cell("S", 2, 2)},
		{"'a b'!$A$1:$BL$512", dollars(cell("a b", 1, 1), true, true), dollars(cell("a b", 64, 512), true, true)},
		{"'a''b'!A1:B2", cell("a'b", 1, 1), cell("a'b", 2, 2)},
		{"'a!b'!A1:B2", cell("a!b", 1, 1), cell("a!b", 2, 2)},
	}
	for _, x := range tests {
		is(t, parseRange(x.s), ranged{A: x.a, B: x.b}, "ParseRange", x.s)
	}
	for _, x := range spelt {
		end := cell(x.r.Sheet, 5, 6)
		is(t, parseRange(x.s+":E6"), ranged{A: x.r, B: end}, "ParseRange", x.s+":E6")
		if x.r.Sheet == "" {
			is(t, parseRange("E6:"+x.s), ranged{A: end, B: x.r}, "ParseRange", "E6:"+x.s)
			continue
		}
		is(t, parseRange("E6:"+x.s), ranged{E: api.ErrSyntax}, "ParseRange", "E6:"+x.s)
		is(t, parseRange(x.s+":"+x.s), ranged{E: api.ErrSyntax}, "ParseRange", x.s+":"+x.s)
		is(t, parseRange(x.s), ranged{E: api.ErrSyntax}, "ParseRange", x.s)
	}
}

// TestParseRangeOfOtherTexts asks ErrSyntax of one reference beside each answer of the other.
func TestParseRangeOfOtherTexts(t *testing.T) {
	for _, s := range notSpelt {
		for _, other := range []string{"A1", "S!A1", "A513", "BM1", "a1", ""} {
			is(t, parseRange(s+":"+other), ranged{E: api.ErrSyntax}, "ParseRange", s+":"+other)
			is(t, parseRange(other+":"+s), ranged{E: api.ErrSyntax}, "ParseRange", other+":"+s)
		}
	}
	for _, s := range []string{
		"", ":", "::", "A1", "S!A1", "A513", "A1:", ":A1", "A1::B2", "A1:B2:", ":A1:B2", "A1:B2:C3", "A1 :B2", "A1: B2", "A1;B2", "A1..B2", "A1B2", "A1!B2", "A:B", "1:2", "$A:$B", "A1:B", "A:B2", "#REF!", "#REF!:A1", "A1:#REF!", "A1:'B2'",
		"S!A1:S!B2", "S!A1:T!B2", "A1:S!B2", "A1:!B2", "S:T!A1", "S!:A1", "'a b'!A1:'a b'!B2", "'a b!A1:B2'", "'a b'!A1':B2", "'a:b'!A1:B2", "'A1:B2'!A1:B2", "'a:b'!A1", "'a b:A1'!B2", "'a b'!:A1", "a:b!A1:B2", "'S'!A1:B2", "''!A1:B2", "!A1:B2",
		"A513:b2", "a1:A513", "A0:A513", "A513:A0", "ZZ1:S!A1", "ZZ1:", ":ZZ1", "ZZ1:AAAA1", "AAAA1:ZZ1", "ZZ1:A1:A1", "'S'!ZZ1:A1", "S!ZZ1:S!A1", "A513:A00513",
	} {
		is(t, parseRange(s), ranged{E: api.ErrSyntax}, "ParseRange", s)
	}
}

func TestParseRangeBeyond(t *testing.T) {
	for _, s := range beyond {
		is(t, parseRange(s+":A1"), ranged{E: api.ErrRef}, "ParseRange", s+":A1")
		is(t, parseRange(s+":$ZZZ9999999"), ranged{E: api.ErrRef}, "ParseRange", s+":$ZZZ9999999")
		if !strings.Contains(s, "!") {
			is(t, parseRange("A1:"+s), ranged{E: api.ErrRef}, "ParseRange", "A1:"+s)
			is(t, parseRange("'a b'!A1:"+s), ranged{E: api.ErrRef}, "ParseRange", "'a b'!A1:"+s)
		}
	}
}

func TestParseRangeByModel(t *testing.T) {
	of := numbers()
	for _, s := range texts(6, "A1", "ZZ1", ":", "$", "0", "S!", "'", "a b") {
		is(t, parseRange(s), modelRange(s, of), "ParseRange", s)
	}
	r := rand.New(rand.NewSource(1007))
	for range 50000 {
		b := rightRef(r)
		if r.Intn(8) > 0 {
			b.Sheet = ""
		}
		s := faulty(r, modelPrint(rightRef(r))+":"+modelPrint(b))
		is(t, parseRange(s), modelRange(s, of), "ParseRange", s)
	}
}

// P1005

func TestBack(t *testing.T) {
	for _, sheet := range append([]string{""}, names...) {
		step := 1
		if sheet != "" {
			step = 9
		}
		for col := 1; col <= api.MaxCol; col += step {
			for row := 1; row <= api.MaxRow; row += step {
				for n := range 4 {
					r := dollars(cell(sheet, col, row), n&1 > 0, n&2 > 0)
					if got := parse(cells.Print(r)); got != (parsed{R: r}) {
						t.Fatalf("Parse of Print of %+v: %+v", r, got)
					}
				}
			}
		}
	}
}

// TestBackOfTexts holds Print of what Parse answers against the text that it was answered of.
func TestBackOfTexts(t *testing.T) {
	r := rand.New(rand.NewSource(1008))
	read := 0
	back := func(s string) {
		x, e := cells.Parse(s)
		if e != api.OK {
			return
		}
		read++
		is(t, cells.Right(x), true, "Right of Parse", s)
		is(t, cells.Print(x), s, "Print of Parse", s)
	}
	for _, s := range texts(6, "A", "$", "1", "9", "!", "'", "_") {
		back(s)
	}
	for range 50000 {
		back(faulty(r, modelPrint(rightRef(r))))
	}
	for range 50000 {
		back(cells.Quote(anyName(r)) + "!A1")
	}
	if read < 50000 {
		t.Errorf("only %d could be read", read)
	}
}

func TestBackOfRanges(t *testing.T) {
	r := rand.New(rand.NewSource(1009))
	for range 50000 {
		a, b := rightRef(r), rightRef(r)
		b.Sheet = a.Sheet
		s := cells.PrintRange(a, b)
		is(t, parseRange(s), ranged{A: a, B: b}, "ParseRange of PrintRange", a, b)
		s = faulty(r, s)
		if x, y, e := cells.ParseRange(s); e == api.OK {
			is(t, cells.PrintRange(x, y), s, "PrintRange of ParseRange", s)
		}
	}
}
