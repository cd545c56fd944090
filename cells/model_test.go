package cells_test

import (
	"fmt"
	"math"
	"math/rand"
	"regexp"
	"strconv"
	"strings"
	"testing"

	"quire/api"
	"quire/cells"
)

const (
	least    = math.MinInt
	greatest = math.MaxInt
)

// cell is a reference without `$`.
func cell(sheet string, col, row int) api.Ref { return api.Ref{Sheet: sheet, Col: col, Row: row} }

// dollars is a reference with `$` as said.
func dollars(r api.Ref, col, row bool) api.Ref {
	r.AbsCol, r.AbsRow = col, row
	return r
}

// parsed is what Parse answers.
type parsed struct {
	R api.Ref
	E api.Errno
}

func parse(s string) parsed {
	r, e := cells.Parse(s)
	return parsed{r, e}
}

// ranged is what ParseRange answers.
type ranged struct {
	A, B api.Ref
	E    api.Errno
}

func parseRange(s string) ranged {
	a, b, e := cells.ParseRange(s)
	return ranged{a, b, e}
}

// is holds an answer against what it must be.
func is[T comparable](t *testing.T, got, want T, what string, of ...any) {
	t.Helper()
	if got != want {
		t.Errorf("%s %#v: %#v, not %#v", what, of, got, want)
	}
}

// The model: columns are counted up, names and texts are matched by patterns.

// columns are the texts of 1 to 3 letters in the order of their columns.
var columns = countedUp()

func countedUp() (all []string) {
	before := []string{""}
	for range 3 {
		var longer []string
		for _, s := range before {
			for c := 'A'; c <= 'Z'; c++ {
				longer = append(longer, s+string(c))
			}
		}
		all = append(all, longer...)
		before = longer
	}
	return all
}

// numbers are the columns that there are, by their texts.
func numbers() map[string]int {
	all := map[string]int{}
	for i, s := range columns[:api.MaxCol] {
		all[s] = i + 1
	}
	return all
}

var (
	nameForm  = regexp.MustCompile(`\A[\x20-\x7e]{1,31}\z`)
	nameBar   = regexp.MustCompile(`[:\\/?*\[\]]|\A'|'\z`)
	plainForm = regexp.MustCompile(`\A[A-Za-z_][A-Za-z_0-9]*\z`)
	refForm   = regexp.MustCompile(`(?s)\A(?:([A-Za-z_][A-Za-z_0-9]*|'(?:[^']|'')*')!)?(\$?)([A-Z]{1,3})(\$?)([1-9][0-9]{0,6})\z`)
)

func modelName(s string) bool { return nameForm.MatchString(s) && !nameBar.MatchString(s) }

func modelQuote(s string) string {
	if plainForm.MatchString(s) {
		return s
	}
	return "'" + strings.Join(strings.Split(s, "'"), "''") + "'"
}

func modelRight(r api.Ref) bool {
	return 0 < r.Col && r.Col < 65 && 0 < r.Row && r.Row < 513 && (len(r.Sheet) == 0 || modelName(r.Sheet))
}

func modelPrint(r api.Ref) string {
	if !modelRight(r) {
		return "#REF!"
	}
	s := ""
	if r.Sheet != "" {
		s = modelQuote(r.Sheet) + "!"
	}
	if r.AbsCol {
		s += "$"
	}
	s += columns[r.Col-1]
	if r.AbsRow {
		s += "$"
	}
	return s + fmt.Sprint(r.Row)
}

func modelParse(s string, of map[string]int) parsed {
	m := refForm.FindStringSubmatch(s)
	if m == nil {
		return parsed{E: api.ErrSyntax}
	}
	sheet := m[1]
	if strings.HasPrefix(sheet, "'") {
		sheet = strings.ReplaceAll(sheet[1:len(sheet)-1], "''", "'")
	}
	if m[1] != "" && (!modelName(sheet) || modelQuote(sheet) != m[1]) {
		return parsed{E: api.ErrSyntax}
	}
	row, _ := strconv.Atoi(m[5])
	if of[m[3]] == 0 || row > 512 {
		return parsed{E: api.ErrRef}
	}
	return parsed{R: api.Ref{Sheet: sheet, Col: of[m[3]], Row: row, AbsCol: m[2] != "", AbsRow: m[4] != ""}}
}

// modelRange cuts s at every colon; a text with two is none, wherever it is cut.
func modelRange(s string, of map[string]int) ranged {
	for i := range len(s) {
		if s[i] != ':' {
			continue
		}
		a, b := modelParse(s[:i], of), modelParse(s[i+1:], of)
		if a.E == api.ErrSyntax || b.E == api.ErrSyntax || strings.Contains(s[i+1:], "!") {
			continue
		}
		if a.E != api.OK || b.E != api.OK {
			return ranged{E: api.ErrRef}
		}
		b.R.Sheet = a.R.Sheet
		return ranged{A: a.R, B: b.R}
	}
	return ranged{E: api.ErrSyntax}
}

// texts are all of up to so many of these pieces, one behind the other.
func texts(most int, pieces ...string) (all []string) {
	all = []string{""}
	last := all
	for range most {
		var longer []string
		for _, s := range last {
			for _, p := range pieces {
				longer = append(longer, s+p)
			}
		}
		all = append(all, longer...)
		last = longer
	}
	return all
}

// names are sheets' names that may be, plain or not.
var names = []string{
	"S", "s", "_", "_1", "My", "my", "A1", "TRUE", "Sheet1", "a_b", "R1C1", strings.Repeat("n", 31), "_" + strings.Repeat("0", 30),
	" ", "1", "1a", "a b", " a", "a ", "a'b", "a''b", "a'b'c", "it's", "!", "a!b", "$", "a$1", "a.b", "a-b", "#REF!", "a,b", "(a)", `"a"`, "~", "a~", "{}|", "=1", strings.Repeat(" ", 31), strings.Repeat("1", 31), "a" + strings.Repeat("'", 29) + "b",
}

// notNames are texts that are no sheet's name.
var notNames = []string{
	"", "'", "''", "'a", "a'", "'a'", "' ", " '", "a:b", `a\b`, "a/b", "a?b", "a*b", "a[b", "a]b", ":", `\`, "/", "?", "*", "[", "]", "a:", ":a",
	strings.Repeat("n", 32), strings.Repeat(" ", 32), strings.Repeat("n", 33), strings.Repeat("n", 1000), strings.Repeat("'", 31),
	"\x00", "\x1f", "a\x1f", "\x1fa", "a\tb", "a\nb", "\n", "a\n", "\x7f", "a\x7f", "\x80", "\xff", "a\xffb", "\xc3\xb1", "a\xc3\xb1", "\xef\xbb\xbfa",
}

// anyName is a text of up to 34 of the signs that count, and now and then of any others.
func anyName(r *rand.Rand) string {
	const signs = "aZ_09' !$.:\\/?*[]~\x1f\x7f\x80"
	plainOnes := r.Intn(3) == 0
	var out strings.Builder
	for range r.Intn(35) {
		switch {
		case plainOnes || r.Intn(3) > 0:
			out.WriteByte("aZ_09"[r.Intn(5)])
		case r.Intn(20) == 0:
			out.WriteByte(byte(r.Intn(256)))
		default:
			out.WriteByte(signs[r.Intn(len(signs)-12*r.Intn(2))])
		}
	}
	return out.String()
}

// anyInt is most often near an edge, and may be any int.
func anyInt(r *rand.Rand, most int) int {
	switch r.Intn(8) {
	case 0:
		return int(r.Uint64())
	case 1:
		return []int{least, least + 1, -1, 0, 1, most, most + 1, greatest - 1, greatest}[r.Intn(9)]
	}
	return 1 + r.Intn(most)
}

// anyRef is a reference, right or not.
func anyRef(r *rand.Rand) api.Ref {
	x := cell("", anyInt(r, 64), anyInt(r, 512))
	switch r.Intn(4) {
	case 0:
		x.Sheet = anyName(r)
	case 1:
		x.Sheet = names[r.Intn(len(names))]
	}
	return dollars(x, r.Intn(2) == 0, r.Intn(2) == 0)
}

// rightRef is a right reference.
func rightRef(r *rand.Rand) api.Ref {
	for {
		if x := anyRef(r); modelRight(x) {
			return x
		}
	}
}
