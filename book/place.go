package book

import (
	"cmp"
	"slices"

	"quire/api"
)

// Sheet answers the number of the sheet with just that name; -1, if there is none.
func Sheet(b api.Book, name string) int {
	return slices.IndexFunc(b.Sheets, func(s api.Sheet) bool { return s.Name == name })
}

// Find answers the number of the name; -1, if there is none.
func Find(b api.Book, name string) int {
	return slices.IndexFunc(b.Names, func(n api.Name) bool { return n.Name == name })
}

// Style answers the number of the code; -1, if there is none.
func Style(b api.Book, code string) int { return slices.Index(b.Styles, code) }

// hasSheet tells whether b has a sheet with that number.
func hasSheet(b api.Book, sheet int) bool { return sheet >= 0 && sheet < len(b.Sheets) }

// order tells which of two cells stands first in a sheet, by -1, 0, 1: row by row, in each from the left.
func order(a, b *api.Cell) int {
	return cmp.Or(cmp.Compare(a.Row, b.Row), cmp.Compare(a.Col, b.Col))
}

// Get answers the cell at a place, and true; an empty one there and false, if there is none. It asks one cell after the other, since the first counts, in books too whose cells do not rise.
func Get(b api.Book, sheet, col, row int) (api.Cell, bool) {
	empty := api.Cell{Col: col, Row: row}
	if !hasSheet(b, sheet) {
		return empty, false
	}
	list := b.Sheets[sheet].Cells
	for i := range list {
		if order(&list[i], &empty) == 0 {
			return cloneCell(list[i]), true
		}
	}
	return empty, false
}

// Put answers a new book, in which the sheet has the cell in its place. An empty cell is not kept: there is none then.
func Put(b api.Book, sheet int, c api.Cell) api.Book {
	made := Clone(b)
	if !hasSheet(made, sheet) {
		return made
	}
	list := &made.Sheets[sheet].Cells
	i, there := slices.BinarySearchFunc(*list, c, func(a, b api.Cell) int { return order(&a, &b) })
	switch {
	case Empty(c) && there:
		*list = slices.Delete(*list, i, i+1)
	case Empty(c):
	case there:
		(*list)[i] = cloneCell(c)
	default:
		*list = slices.Insert(*list, i, cloneCell(c))
	}
	return made
}
