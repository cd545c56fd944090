package graph

import (
	"iter"
	"slices"

	"quire/eval"
)

// inOrder answers the places in order, each once.
func inOrder(l []Place) []Place {
	made := slices.Clone(l)
	slices.SortFunc(made, compare)
	return slices.Compact(made)
}

// seek answers the number of a place among others that are in order. False: it would stand there, but does not.
func seek(l []Place, p Place) (int, bool) { return slices.BinarySearchFunc(l, p, compare) }

// inside hands out the numbers of the places, of some that are in order, that a rectangle holds.
func inside(l []Place, r eval.Rect) iter.Seq[int] {
	return func(yield func(int) bool) {
		first, _ := seek(l, Place{r.Sheet, r.C1, r.R1})
		end, _ := seek(l, Place{r.Sheet, r.C2 + 1, r.R2})
		for i := first; i < end; i++ {
			if r.C1 <= l[i].Col && l[i].Col <= r.C2 && !yield(i) {
				return
			}
		}
	}
}

// within answers the numbers of the places, of some that are in order, that any of the rectangles holds: rising, each once.
func within(l []Place, rects []eval.Rect) (all []int) {
	held := make([]bool, len(l))
	for _, r := range rects {
		for i := range inside(l, r) {
			held[i] = true
		}
	}
	for i := range held {
		if held[i] {
			all = append(all, i)
		}
	}
	return all
}

// needing answers the formulas that need one of the places, that are in order.
func (g *Graph) needing(l []Place) (all []int) {
	holds := func(r eval.Rect) bool {
		for range inside(l, r) {
			return true
		}
		return false
	}
	for i, rects := range g.rects {
		if slices.ContainsFunc(rects, holds) {
			all = append(all, i)
		}
	}
	return all
}

// standing answers the formulas at the places, that are in order.
func (g *Graph) standing(l []Place) (all []int) {
	for _, p := range l {
		if i, there := seek(g.formulas, p); there {
			all = append(all, i)
		}
	}
	return all
}
