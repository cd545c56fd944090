package lex_test

import (
	"math/rand"
	"regexp"
	"slices"
	"strings"
	"testing"

	"quire/api"
	"quire/cells"
	"quire/dec"
	"quire/lex"
	"quire/utf"
)

// tokens are what Lex must answer.
type tokens = []lex.Token

func num(at int, c int64, e int) lex.Token {
	return lex.Token{Kind: lex.Num, At: at, N: api.Dec{C: c, E: e}}
}

func text(at int, s string) lex.Token { return lex.Token{Kind: lex.Text, At: at, S: s} }

func name(at int, s string) lex.Token { return lex.Token{Kind: lex.Name, At: at, S: s} }

func mark(at int, s string) lex.Token { return lex.Token{Kind: lex.Mark, At: at, S: s} }

func bad(at int) lex.Token { return lex.Token{Kind: lex.Bad, At: at} }

// ref is a Ref with `$` ahead of what abs names: "", "c", "r" or "cr".
func ref(at int, sheet string, col, row int, abs string) lex.Token {
	r := api.Ref{Sheet: sheet, Col: col, Row: row, AbsCol: strings.Contains(abs, "c"), AbsRow: strings.Contains(abs, "r")}
	return lex.Token{Kind: lex.Ref, At: at, R: r}
}

// reads asks whether Lex answers these tokens, and nothing beside them.
func reads(t *testing.T, s string, want ...lex.Token) {
	t.Helper()
	got, at, e := lex.Lex(s)
	if at != 0 || e != api.OK || !slices.Equal(got, want) {
		t.Errorf("Lex %q: %+v, %d, %d, not %+v", s, got, at, int(e), want)
	}
}

// refuses asks whether Lex answers this place and error, and no token.
func refuses(t *testing.T, s string, at int, e api.Errno) {
	t.Helper()
	got, place, fault := lex.Lex(s)
	if len(got) != 0 || place != at || fault != e {
		t.Errorf("Lex %q: %+v, %d, %d, not none, %d, %d", s, got, place, int(fault), at, int(e))
	}
}

func is[T comparable](t *testing.T, got, want T, what string, of ...any) {
	t.Helper()
	if got != want {
		t.Errorf("%s %#v: %#v, not %#v", what, of, got, want)
	}
}

// The model: what a token is is told by patterns. Behind what ends by a quote stands no other one.
var (
	blankForm  = regexp.MustCompile(`\A *`)
	numForm    = regexp.MustCompile(`\A[0-9]+(?:\.[0-9]+)?(?:[Ee][+-]?[0-9]+)?`)
	textForm   = regexp.MustCompile(`(?s)\A("((?:[^"]|"")*)")(?:[^"]|\z)`)
	quotedForm = regexp.MustCompile(`(?s)\A'(?:[^']|'')*'![A-Z0-9$]*`)
	sheetForm  = regexp.MustCompile(`\A[A-Za-z_][A-Za-z_0-9]*![A-Z0-9$]*`)
	runForm    = regexp.MustCompile(`\A[A-Za-z_$][A-Za-z_0-9.$]*`)
	badForm    = regexp.MustCompile(`\A#REF!`)
	markForm   = regexp.MustCompile(`\A(?:<>|<=|>=|[-<>=+*/^&%(),:])`)
)

// modelLex is Lex.
func modelLex(s string) (tokens, int, api.Errno) {
	if len(s) > 512 {
		return nil, 0, api.ErrBig
	}
	var all tokens
	at := len(blankForm.FindString(s))
	for at < len(s) {
		one, size, e := modelToken(s[at:])
		if e != api.OK {
			return nil, at, e
		}
		one.At = at
		all = append(all, one)
		at += size
		at += len(blankForm.FindString(s[at:]))
	}
	return all, 0, api.OK
}

// modelToken is the token that s begins with, and how many bytes it has. A run with `$` or `.` and `!` is none that the pattern of sheets fits.
func modelToken(s string) (lex.Token, int, api.Errno) {
	if m := numForm.FindString(s); m != "" {
		n, e := dec.Parse(m)
		return lex.Token{Kind: lex.Num, N: n}, len(m), e
	}
	if m := textForm.FindStringSubmatch(s); m != nil {
		inner := strings.Join(strings.Split(m[2], `""`), `"`)
		if len(inner) > 255 {
			return lex.Token{}, 0, api.ErrBig
		}
		return text(0, inner), len(m[1]), utf.Xml(inner)
	}
	for _, form := range []*regexp.Regexp{quotedForm, sheetForm} {
		if m := form.FindString(s); m != "" {
			r, e := cells.Parse(m)
			return lex.Token{Kind: lex.Ref, R: r}, len(m), e
		}
	}
	if m := runForm.FindString(s); m != "" {
		return modelRun(m, s[len(m):])
	}
	if badForm.MatchString(s) {
		return bad(0), 5, api.OK
	}
	if m := markForm.FindString(s); m != "" {
		return mark(0, m), len(m), api.OK
	}
	return lex.Token{}, 0, api.ErrSyntax
}

// modelRun is the token of a run that is no sheet's.
func modelRun(m, behind string) (lex.Token, int, api.Errno) {
	r, e := cells.Parse(m)
	called := strings.HasPrefix(behind, "(")
	switch {
	case e == api.OK && !called:
		return lex.Token{Kind: lex.Ref, R: r}, len(m), api.OK
	case e == api.ErrRef && !called:
		return lex.Token{}, 0, api.ErrRef
	case strings.Contains(m, "$"):
		return lex.Token{}, 0, api.ErrSyntax
	}
	return name(0, m), len(m), api.OK
}

// likeModel asks whether Lex and Word answer what the model does, and tells whether there was an error.
func likeModel(t *testing.T, s string) bool {
	t.Helper()
	want, at, e := modelLex(s)
	if e == api.OK {
		reads(t, s, want...)
	} else {
		refuses(t, s, at, e)
	}
	is(t, lex.Word(s), modelWord(s), "Word", s)
	return e == api.OK
}

// modelWord is Word: a run without `$` that is no cell's, whether or not there is such a cell.
func modelWord(s string) bool {
	if runForm.FindString(s) != s || s == "" || len(s) > 512 || s == "TRUE" || s == "FALSE" {
		return false
	}
	_, e := cells.Parse(s)
	return e == api.ErrSyntax && !strings.Contains(s, "$")
}

// texts are all of up to so many of these pieces, one behind the other.
func texts(most int, pieces ...string) (all []string) {
	all = []string{""}
	last := all
	for range most {
		var longer []string
		for _, s := range last {
			for _, p := range pieces {
				longer = append(longer, s+p)
			}
		}
		all = append(all, longer...)
		last = longer
	}
	return all
}

// pieces are of what formulas are made, right ones and wrong ones.
var pieces = []string{
	"1", "0", "25", "1.5", "0.001", "1E5", "2e-3", "1E+18", "1E", "1E19", "1.", ".5", "1E0001", "007",
	`"x"`, `""`, `"a""b"`, `"`, `""""`, "\"\xff\"", "\"\x01\"", "\"\u00f1\"", `"A1"`, `" "`,
	"A1", "$A1", "A$1", "$A$1", "BL512", "ZZ1", "A513", "LOG10", "$ZZ$1", "A$", "$", "$$A1", "A0",
	"S!A1", "S!$B$2", "'a b'!A1", "'a''b'!$C3", "'a b'!ZZ1", "S!", "S!A513", "'a b", "'a b'", "'S'!A1", "a.b!A1", "A$1!A1", "!",
	"SUM", "x", "tax", "_", "a.b", "TRUE", "FALSE", "true", "R1C1", "e5", "E", "E5", "A1.5", "a1",
	"#REF!", "#REF", "#", "<>", "<=", ">=", "<", ">", "=", "+", "-", "*", "/", "^", "&", "%", "(", ")", ",", ":",
	" ", "  ", "\t", "\n", "?", ";", "[", "{", "\x00", "\x7f", "\x80", "\u00f1", "\xff", "@", "~", "`", "|", "\\",
}

// anyText is some pieces, one behind the other.
func anyText(r *rand.Rand) string {
	var out strings.Builder
	for range r.Intn(10) {
		out.WriteString(pieces[r.Intn(len(pieces))])
		if r.Intn(4) == 0 {
			out.WriteString(strings.Repeat(" ", r.Intn(3)))
		}
	}
	return out.String()
}

// faulty is s, and now and then with a byte more, less, or another one.
func faulty(r *rand.Rand, s string) string {
	const signs = "AZaz_$!'\".E+-:(09 <>=#\x00\xff"
	at, sign := r.Intn(len(s)+1), signs[r.Intn(len(signs))]
	switch r.Intn(4) {
	case 0:
		return s[:at] + string([]byte{sign}) + s[at:]
	case 1:
		return s[:at] + s[min(at+1, len(s)):]
	case 2:
		return s[:at] + string([]byte{sign}) + s[min(at+1, len(s)):]
	}
	return s
}

// anyWritten is a token that may be, and how it is written. No Name of these could be a cell's, so that none needs a `(` behind it.
func anyWritten(r *rand.Rand) (lex.Token, string) {
	switch r.Intn(6) {
	case 0:
		n, _ := dec.Make(r.Int63n(1e9), r.Intn(10)-5)
		return lex.Token{Kind: lex.Num, N: n}, dec.Print(n)
	case 1:
		s := anyAllowed(r, r.Intn(6))
		return text(0, s), lex.Quote(s)
	case 2:
		sheets := []string{"", "S", "a b", "it's", "_1", "A1", "!", "TRUE"}
		one := ref(0, sheets[r.Intn(len(sheets))], 1+r.Intn(64), 1+r.Intn(512), []string{"", "c", "r", "cr"}[r.Intn(4)])
		return one, cells.Print(one.R)
	case 3:
		words := []string{"x", "SUM", "a.b", "_", "TRUE", "E", "R1C1", "A0", "ABCD1", "true"}
		s := words[r.Intn(len(words))]
		return name(0, s), s
	case 4:
		return bad(0), "#REF!"
	}
	s := allMarks()[r.Intn(17)]
	return mark(0, s), s
}

// anyAllowed is n characters that XML may have.
func anyAllowed(r *rand.Rand, n int) string {
	signs := []rune{'"', '"', '\'', 'a', ' ', '\t', '\n', '\r', 0x7f, 0xf1, 0xfffd, 0xd7ff, 0xe000, 0x10ffff}
	var out strings.Builder
	for range n {
		out.WriteRune(signs[r.Intn(len(signs))])
	}
	return out.String()
}

// allMarks are the Marks, as the chapter lists them.
func allMarks() []string {
	return strings.Fields("<> <= >= < > = + - * / ^ & % ( ) , :")
}
