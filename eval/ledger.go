package eval

import (
	"iter"
	"sort"

	"quire/api"
	"quire/val"
)

// numbered is a cell of a sheet. It is the book's own, and only looked at.
type numbered struct {
	*api.Cell
	sheet int
}

// ledger holds a right book's cells, numbered through all sheets, and what they are worth, as far as that was asked.
type ledger struct {
	b      api.Book
	first  []int // the number of each sheet's first cell
	cells  []numbered
	needs  *knots // of formulas
	values []api.Value
	scopes []*scope // of each sheet
}

func newLedger(b api.Book) *ledger {
	l := &ledger{b: b}
	for sheet, s := range b.Sheets {
		l.first = append(l.first, len(l.cells))
		l.scopes = append(l.scopes, newScope(b, sheet, l.known))
		for i := range s.Cells {
			l.cells = append(l.cells, numbered{&s.Cells[i], sheet})
			l.values = append(l.values, s.Cells[i].In.V)
		}
	}
	l.needs = newKnots(len(l.cells), l.needed)
	return l
}

// inside hands out the numbers of the cells in a rectangle, row by row.
func (l *ledger) inside(r Rect) iter.Seq[int] {
	return func(yield func(int) bool) {
		list := l.b.Sheets[r.Sheet].Cells
		i := sort.Search(len(list), func(i int) bool { return list[i].Row >= r.R1 })
		for ; i < len(list) && list[i].Row <= r.R2; i++ {
			if r.C1 <= list[i].Col && list[i].Col <= r.C2 && !yield(l.first[r.Sheet]+i) {
				return
			}
		}
	}
}

// find answers the number of the cell at a place. False: there is none.
func (l *ledger) find(sheet, col, row int) (int, bool) {
	if !hasSheet(l.b, sheet) {
		return 0, false
	}
	for i := range l.inside(Rect{sheet, col, row, col, row}) {
		return i, true
	}
	return 0, false
}

// needed answers the formulas that a formula needs, each once: what it refers to may be in very many rectangles, and all that are on the way are kept at one time.
func (l *ledger) needed(i int) (all []int) {
	met := make([]bool, len(l.cells))
	for r := range needs(l.b, l.cells[i].sheet, &l.cells[i].In.F) {
		for j := range l.inside(r) {
			if l.cells[j].In.Formula && !met[j] {
				met[j] = true
				all = append(all, j)
			}
		}
	}
	return all
}

// circular tells whether the cell is on a cycle.
func (l *ledger) circular(i int) bool {
	if l.cells[i].In.Formula {
		for range l.needs.from(i) {
			continue // what is on a cycle is known behind the last group
		}
	}
	return l.needs.tied[i]
}

// value answers what the cell is worth. Cells that need one another are reckoned in such an order that calls do not stand within one another as deep as formulas may.
func (l *ledger) value(i int) api.Value {
	if l.cells[i].In.Formula {
		for group := range l.needs.from(i) {
			for _, j := range group {
				l.values[j] = l.reckoned(j)
			}
		}
	}
	return l.values[i]
}

// reckoned answers what a formula is worth, if the values of all that it needs are there.
func (l *ledger) reckoned(i int) api.Value {
	if l.needs.tied[i] {
		return val.Err(api.ECycle)
	}
	v := l.scopes[l.cells[i].sheet].worth(&l.cells[i].In.F)
	if v.Kind == api.VEmpty {
		return val.Num(v)
	}
	return v
}

// known answers the values of the cells in a rectangle, row by row.
func (l *ledger) known(r Rect) []api.Value {
	cols, rows := r.size()
	made := make([]api.Value, cols*rows)
	for i := range l.inside(r) {
		c := l.cells[i]
		made[(c.Row-r.R1)*cols+c.Col-r.C1] = l.values[i]
	}
	return made
}
