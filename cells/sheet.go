package cells

import (
	"strings"

	"quire/api"
)

// The signs that texts are made of, and those that a sheet's name may not have.
const (
	capitals = "ABCDEFGHIJKLMNOPQRSTUVWXYZ"
	small    = "abcdefghijklmnopqrstuvwxyz"
	digits   = "0123456789"
	barred   = `:\/?*[]`
)

// The first byte and the last one that a sheet's name may have.
const (
	firstByte = 0x20
	lastByte  = 0x7e
)

// SheetName tells whether a sheet may have the name s.
func SheetName(s string) bool {
	if s == "" || len(s) > api.MaxSheetName {
		return false
	}
	for i := range len(s) {
		if s[i] < firstByte || s[i] > lastByte || strings.IndexByte(barred, s[i]) >= 0 {
			return false
		}
	}
	return s[0] != '\'' && s[len(s)-1] != '\''
}

// Quote answers a sheet's name as it is written ahead of a cell.
func Quote(sheet string) string {
	if plain(sheet) {
		return sheet
	}
	return "'" + strings.ReplaceAll(sheet, "'", "''") + "'"
}

// plain tells whether a name is written without quotes.
func plain(sheet string) bool {
	begin, behind := ahead(sheet, capitals+small+"_")
	_, left := ahead(behind, capitals+small+digits+"_")
	return begin != "" && left == ""
}

// cutSheet answers the sheet's name that s begins with, none if there is no `!` behind one, and what stands behind it. False: it is not a name as it is written.
func cutSheet(s string) (sheet, behind string, ok bool) {
	if strings.HasPrefix(s, "'") {
		sheet, behind, ok = cutQuoted(s)
		return sheet, behind, ok && SheetName(sheet) && !plain(sheet)
	}
	sheet, behind, ok = strings.Cut(s, "!")
	if !ok {
		return "", s, true
	}
	return sheet, behind, SheetName(sheet) && plain(sheet)
}

// cutQuoted answers what stands between the quote that s begins with and the one that ends it, and what stands behind the `!` that must follow. A `!` between the quotes is one of the name's.
func cutQuoted(s string) (name, behind string, ok bool) {
	var out strings.Builder
	at := 1
quoted:
	for ; at < len(s); at++ {
		switch {
		case s[at] != '\'':
		case strings.HasPrefix(s[at:], "''"):
			at++
		default:
			break quoted
		}
		out.WriteByte(s[at])
	}
	behind, ok = strings.CutPrefix(s[at:], "'!")
	return out.String(), behind, ok
}
