package graph

import (
	"iter"
	"slices"
)

// Dirty answers the formulas that a change at the places may touch.
func (g *Graph) Dirty(l []Place) []Place {
	if g == nil {
		return nil
	}
	l = inOrder(l)
	from := append(g.standing(l), g.needing(l)...)
	met := make([]bool, len(g.formulas))
	var all []int
	for i := range reach(g.needed, met, from) {
		all = append(all, i)
	}
	slices.Sort(all)
	return g.places(all)
}

// reach hands out numbers, all that they lead to, all that those lead to, till nothing new comes: each once, and none that was met before.
func reach(leads [][]int, met []bool, from []int) iter.Seq[int] {
	return func(yield func(int) bool) {
		var all []int
		meet := func(l []int) {
			for _, i := range l {
				if !met[i] {
					met[i] = true
					all = append(all, i)
				}
			}
		}
		meet(from)
		for at := 0; at < len(all); at++ {
			if !yield(all[at]) {
				return
			}
			meet(leads[all[at]])
		}
	}
}
