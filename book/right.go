package book

import (
	"quire/api"
	"quire/cells"
	"quire/expr"
	"quire/lex"
	"quire/numfmt"
	"quire/utf"
	"quire/val"
)

// Right answers why b is no workbook that may be, or api.OK.
func Right(b api.Book) api.Errno {
	switch {
	case tooMany(b):
		return api.ErrBig
	case misnamed(b):
		return api.ErrName
	case doubled(b):
		return api.ErrTwice
	case wrongCell(b), wrongName(b), wrongStyle(b):
		return api.ErrArg
	}
	return api.OK
}

// tooMany tells whether b has more of something than may be. No sheet is as wrong as too many.
func tooMany(b api.Book) bool {
	return len(b.Sheets) == 0 || len(b.Sheets) > api.MaxSheets ||
		len(b.Names) > api.MaxNames || len(b.Styles) > api.MaxStyles ||
		Count(b) > api.MaxCells
}

// misnamed tells whether a sheet or a formula of b has a name that none may have.
func misnamed(b api.Book) bool {
	for _, s := range b.Sheets {
		if !cells.SheetName(s.Name) {
			return true
		}
	}
	for _, n := range b.Names {
		if !lex.Word(n.Name) {
			return true
		}
	}
	return false
}

// doubled tells whether two of b's sheets, names or styles can't be told apart. Sheets must differ in more than the case of letters.
func doubled(b api.Book) bool {
	return twice(b.Sheets, func(s api.Sheet) string { return utf.Lower(s.Name) }) ||
		twice(b.Names, func(n api.Name) string { return n.Name }) ||
		twice(b.Styles, func(code string) string { return code })
}

// twice tells whether two things of a list are the same by their keys.
func twice[T any](list []T, key func(T) string) bool {
	found := false
search:
	for i := range list {
		for j := range i {
			if key(list[i]) == key(list[j]) {
				found = true
				break search
			}
		}
	}
	return found
}

// wrongCell tells whether a cell of b may not be, or not where it stands in its sheet's list.
func wrongCell(b api.Book) bool {
	found := false
search:
	for at, c := range everyCell(b) {
		switch list := b.Sheets[at.sheet].Cells; {
		case !rightCell(c), Empty(*c),
			c.Style < 0, c.Style >= len(b.Styles),
			at.cell > 0 && order(&list[at.cell-1], c) >= 0:
			found = true
			break search
		}
	}
	return found
}

// rightCell tells whether c stands where a cell may, with an input that may be.
func rightCell(c *api.Cell) bool {
	return cells.Right(api.Ref{Col: c.Col, Row: c.Row}) && rightInput(c.In)
}

// rightInput tells whether in is a value or a formula, as it says, that may be, and nothing of the other.
func rightInput(in api.Input) bool {
	if in.Formula {
		return in.V == api.Value{} && expr.Right(in.F) == api.OK
	}
	return val.Right(in.V) && expr.Same(in.F, api.Expr{})
}

// wrongName tells whether a name of b has a formula that may not be, or does not stand in its place.
func wrongName(b api.Book) bool {
	found := false
search:
	for i, n := range b.Names {
		if expr.Right(n.F) != api.OK || i > 0 && b.Names[i-1].Name >= n.Name {
			found = true
			break search
		}
	}
	return found
}

// wrongStyle tells whether b has styles that may not be.
func wrongStyle(b api.Book) bool {
	found := len(b.Styles) == 0 || b.Styles[0] != general
search:
	for _, code := range b.Styles {
		if _, fault := numfmt.Parse(code); fault != api.OK {
			found = true
			break search
		}
	}
	return found
}
