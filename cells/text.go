package cells

import (
	"strconv"
	"strings"

	"quire/api"
)

// gone is written for what is no reference.
const gone = "#REF!"

// How many letters and digits a text may have, whether or not there is such a column or row.
const (
	maxLetters = 3
	maxDigits  = 7
)

// Print answers how r is written.
func Print(r api.Ref) string {
	if !Right(r) {
		return gone
	}
	if r.Sheet == "" {
		return place(r)
	}
	return Quote(r.Sheet) + "!" + place(r)
}

// place answers how r is written without its Sheet.
func place(r api.Ref) string {
	return fixed(r.AbsCol) + Letters(r.Col) + fixed(r.AbsRow) + strconv.Itoa(r.Row)
}

func fixed(is bool) string {
	if is {
		return "$"
	}
	return ""
}

// PrintRange answers how the range from a to b is written.
func PrintRange(a, b api.Ref) string {
	if b.Sheet == "" {
		b.Sheet = a.Sheet
	}
	if !Right(a) || !Right(b) || a.Sheet != b.Sheet {
		return gone
	}
	return Print(a) + ":" + place(b)
}

// written is what a reference's text is made of; its letters and digits may be those of no column and no row.
type written struct {
	sheet, letters, digits string
	absCol, absRow         bool
}

// Parse answers the reference that s is the text of.
func Parse(s string) (api.Ref, api.Errno) {
	w, ok := read(s)
	if !ok {
		return api.Ref{}, api.ErrSyntax
	}
	r, ok := w.found()
	if !ok {
		return api.Ref{}, api.ErrRef
	}
	return r, api.OK
}

// ParseRange answers the two references of the range that s is the text of. The first `:` stands between them, since no sheet's name has one.
func ParseRange(s string) (api.Ref, api.Ref, api.Errno) {
	first, second, _ := strings.Cut(s, ":")
	from, ok := read(first)
	to, is := readPlace(second)
	if !ok || !is {
		return api.Ref{}, api.Ref{}, api.ErrSyntax
	}
	to.sheet = from.sheet
	a, ok := from.found()
	b, is := to.found()
	if !ok || !is {
		return api.Ref{}, api.Ref{}, api.ErrRef
	}
	return a, b, api.OK
}

// read takes s apart; false, if it is not written as a reference is.
func read(s string) (written, bool) {
	sheet, behind, ok := cutSheet(s)
	w, is := readPlace(behind)
	w.sheet = sheet
	return w, ok && is
}

// readPlace is read of a text without a sheet.
func readPlace(s string) (written, bool) {
	var w written
	s, w.absCol = strings.CutPrefix(s, "$")
	w.letters, s = ahead(s, capitals)
	s, w.absRow = strings.CutPrefix(s, "$")
	w.digits, s = ahead(s, digits)
	letters := w.letters != "" && len(w.letters) <= maxLetters
	number := w.digits != "" && len(w.digits) <= maxDigits && w.digits[0] != '0'
	return w, letters && number && s == ""
}

// ahead answers those of the signs that s begins with, and what stands behind them.
func ahead(s, signs string) (run, behind string) {
	behind = strings.TrimLeft(s, signs)
	return s[:len(s)-len(behind)], behind
}

// found answers the reference that w is written for; false, if there is no such column or row.
func (w written) found() (api.Ref, bool) {
	col, ok := Col(w.letters)
	n, fault := strconv.Atoi(w.digits)
	if !ok || fault != nil || !row(n) {
		return api.Ref{}, false
	}
	return api.Ref{Sheet: w.sheet, Col: col, Row: n, AbsCol: w.absCol, AbsRow: w.absRow}, true
}
