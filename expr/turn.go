package expr

import (
	"slices"

	"quire/api"
	"quire/cells"
)

// Shift answers x as it stands dc columns and dr rows further.
func Shift(x api.Expr, dc, dr int) api.Expr {
	return turned(x, func(r api.Ref) (api.Ref, bool) { return cells.Shift(r, dc, dr) })
}

// Rename answers x as it is when a sheet has another name.
func Rename(x api.Expr, sheet, other string) api.Expr {
	return turned(x, func(r api.Ref) (api.Ref, bool) {
		if refersTo(r, sheet) {
			r.Sheet = other
		}
		return r, true
	})
}

// Drop answers x as it is when a sheet is not there any more.
func Drop(x api.Expr, sheet string) api.Expr {
	return turned(x, func(r api.Ref) (api.Ref, bool) { return r, !refersTo(r, sheet) })
}

// refersTo tells whether r names the sheet. What names none refers to the formula's own, whichever that is.
func refersTo(r api.Ref, sheet string) bool { return sheet != "" && r.Sheet == sheet }

// turned answers x, made anew, with its references as a way makes them.
func turned(x api.Expr, way func(api.Ref) (api.Ref, bool)) api.Expr {
	top := []api.Expr{x}
	left := [][]api.Expr{top}
	for len(left) > 0 {
		list := left[len(left)-1]
		left = left[:len(left)-1]
		for i := range list {
			list[i] = turnedNode(list[i], way)
			if list[i].Kids = slices.Clone(list[i].Kids); len(list[i].Kids) > 0 {
				left = append(left, list[i].Kids)
			}
		}
	}
	return top[0]
}

// turnedNode is turned of a node alone. It is XBad, if the way says of one of its references that it can't be.
func turnedNode(n api.Expr, way func(api.Ref) (api.Ref, bool)) api.Expr {
	can, canTo := true, true
	switch n.Kind {
	case api.XRange:
		n.To, canTo = way(n.To)
		fallthrough
	case api.XRef:
		n.Ref, can = way(n.Ref)
	}
	if !can || !canTo {
		return api.Expr{Kind: api.XBad}
	}
	return n
}
