package eval

import (
	"quire/api"
	"quire/book"
	"quire/expr"
	"quire/funcs"
	"quire/val"
)

// told answers the values of the cells in a rectangle, row by row.
type told func(r Rect) []api.Value

// scope reckons formulas on one sheet. What a name is worth there is kept: names may stand in one another so often that reckoning each anew would not end.
type scope struct {
	b     api.Book
	sheet int
	told  told
	names *knots
	kept  map[string]api.Value
}

func newScope(b api.Book, sheet int, t told) *scope {
	names := newKnots(len(b.Names), func(i int) []int { return namesIn(b, i) })
	return &scope{b: b, sheet: sheet, told: t, names: names, kept: map[string]api.Value{}}
}

// namesIn answers the numbers of the names in a name's formula.
func namesIn(b api.Book, i int) (all []int) {
	for _, name := range expr.Names(b.Names[i].F) {
		if j := book.Find(b, name); j >= 0 {
			all = append(all, j)
		}
	}
	return all
}

// telling answers the values that at tells, one after the other.
func telling(at func(sheet, col, row int) api.Value) told {
	return func(r Rect) []api.Value {
		cols, rows := r.size()
		l := make([]api.Value, 0, cols*rows)
		for row := r.R1; row <= r.R2; row++ {
			for col := r.C1; col <= r.C2; col++ {
				l = append(l, ask(at, r.Sheet, col, row))
			}
		}
		return l
	}
}

// ask answers what at tells of a cell. A formula is worth something right whatever at is: EValue stands for what is no right value, or was not told at all.
func ask(at func(sheet, col, row int) api.Value, sheet, col, row int) (v api.Value) {
	defer func() {
		if recover() != nil || !val.Right(v) {
			v = val.Err(api.EValue)
		}
	}()
	return at(sheet, col, row)
}

// worth answers what x is worth.
func (s *scope) worth(x *api.Expr) api.Value {
	switch x.Kind {
	case api.XRef, api.XRange:
		return s.single(x)
	case api.XName:
		return s.named(x.Name)
	case api.XCall:
		return funcs.Apply(x.Name, s.arguments(x.Kids))
	case api.XNeg:
		return val.Neg(s.worth(&x.Kids[0]))
	case api.XPct:
		return val.Pct(s.worth(&x.Kids[0]))
	case api.XBin:
		return val.Bin(x.Op, s.worth(&x.Kids[0]), s.worth(&x.Kids[1]))
	case api.XBad:
		return val.Err(api.ERef)
	}
	return x.V
}

// single answers the value of the one cell that x refers to.
func (s *scope) single(x *api.Expr) api.Value {
	r, is := rectOf(s.b, s.sheet, x)
	if !is {
		return val.Err(api.ERef)
	}
	if cols, rows := r.size(); cols*rows > 1 {
		return val.Err(api.EValue)
	}
	return s.told(r)[0]
}

// named answers what a name is worth. The names that it leads to are reckoned ahead of it, so that none is while another one still holds its arguments, which may be great.
func (s *scope) named(name string) api.Value {
	i := book.Find(s.b, name)
	if i < 0 {
		return val.Err(api.EName)
	}
	for group := range s.names.from(i) {
		for _, j := range group {
			s.kept[s.b.Names[j].Name] = s.reckoned(j)
		}
	}
	return s.kept[name]
}

// reckoned answers what the name with that number is worth, if those that it leads to are kept.
func (s *scope) reckoned(i int) api.Value {
	if s.names.tied[i] {
		return val.Err(api.ECycle)
	}
	return s.worth(&s.b.Names[i].F)
}

func (s *scope) arguments(l []api.Expr) []funcs.Arg {
	made := make([]funcs.Arg, len(l))
	for i := range l {
		made[i] = s.argument(&l[i])
	}
	return made
}

// argument answers the area that x is, by names too, or else its value.
func (s *scope) argument(x *api.Expr) funcs.Arg {
	r, is := rectOf(s.b, s.sheet, s.meant(x))
	if !is {
		return funcs.One(s.worth(x))
	}
	cols, rows := r.size()
	return funcs.Arg{Area: true, Cols: cols, Rows: rows, Col: r.C1, Row: r.R1, V: s.told(r)}
}

// meant answers the formula that x is, by names too; a name, if there is none of that name, or if names lead in a circle: no way is longer than there are names.
func (s *scope) meant(x *api.Expr) *api.Expr {
	for range s.b.Names {
		if x.Kind != api.XName {
			break
		}
		i := book.Find(s.b, x.Name)
		if i < 0 {
			break
		}
		x = &s.b.Names[i].F
	}
	return x
}
