package eval

import (
	"iter"

	"quire/api"
	"quire/book"
	"quire/cells"
)

// needs hands out the rectangles of what x, on that sheet, refers to, in the order in which it is written, those of a name in its place.
func needs(b api.Book, sheet int, x *api.Expr) iter.Seq[Rect] {
	return func(yield func(Rect) bool) {
		for n := range nodes(b, x) {
			if r, is := rectOf(b, sheet, n); is && !yield(r) {
				return
			}
		}
	}
}

// nodes hands out x and all that is in it, in the order in which it is written; behind a name that is met first all that is in its formula. A name that was met gives nothing more, so that circular names end too, and names that stand in very many places take no longer.
func nodes(b api.Book, x *api.Expr) iter.Seq[*api.Expr] {
	return func(yield func(*api.Expr) bool) {
		met := map[string]struct{}{}
		var walk func(x *api.Expr) bool
		walk = func(x *api.Expr) bool {
			if !yield(x) {
				return false
			}
			for i := range x.Kids {
				if !walk(&x.Kids[i]) {
					return false
				}
			}
			if _, again := met[x.Name]; again || x.Kind != api.XName {
				return true
			}
			met[x.Name] = struct{}{}
			i := book.Find(b, x.Name)
			return i < 0 || walk(&b.Names[i].F)
		}
		walk(x)
	}
}

// rectOf answers the rectangle of a reference or a range on that sheet. False: x is neither, or there is no such sheet as it names.
func rectOf(b api.Book, sheet int, x *api.Expr) (Rect, bool) {
	to := x.Ref
	switch x.Kind {
	case api.XRef:
	case api.XRange:
		to = x.To
	default:
		return Rect{}, false
	}
	if x.Ref.Sheet != "" {
		sheet = book.Sheet(b, x.Ref.Sheet)
	}
	r := Rect{Sheet: sheet}
	r.C1, r.R1, r.C2, r.R2 = cells.Box(x.Ref, to)
	return r, sheet >= 0
}

// size answers how many columns and rows r has.
func (r Rect) size() (cols, rows int) { return r.C2 - r.C1 + 1, r.R2 - r.R1 + 1 }
