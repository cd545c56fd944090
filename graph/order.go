package graph

import "slices"

// Cycles answers the formulas on a cycle.
func (g *Graph) Cycles() (all []Place) {
	if g == nil {
		return nil
	}
	for i, p := range g.formulas {
		if g.tied[i] {
			all = append(all, p)
		}
	}
	return all
}

// tie finds what is on a cycle (Kosaraju's way): formulas that need one another, by others, come as one group if the one that was done last comes first.
func (g *Graph) tie() {
	g.tied = make([]bool, len(g.formulas))
	met := make([]bool, len(g.formulas))
	for _, i := range slices.Backward(g.done()) {
		group := slices.Collect(reach(g.needed, met, []int{i}))
		for _, j := range group {
			g.tied[j] = len(group) > 1 || slices.Contains(g.needs[j], j)
		}
	}
}

// done answers all formulas, each behind those that it needs, but for the ones on its way to itself.
func (g *Graph) done() (all []int) {
	met := make([]bool, len(g.formulas))
	var visit func(i int)
	visit = func(i int) {
		if met[i] {
			return
		}
		met[i] = true
		for _, j := range g.needs[i] {
			visit(j)
		}
		all = append(all, i)
	}
	for i := range g.formulas {
		visit(i)
	}
	return all
}

// Order answers the formulas at the places, each behind those of them that it needs, what is on a cycle last.
func (g *Graph) Order(l []Place) []Place {
	if g == nil {
		return nil
	}
	var free, tied []int
	for _, i := range g.standing(inOrder(l)) {
		if g.tied[i] {
			tied = append(tied, i)
		} else {
			free = append(free, i)
		}
	}
	return g.places(append(g.inLine(free), tied...))
}

// inLine puts formulas that rise, and are on no cycle, in a line.
func (g *Graph) inLine(left []int) (line []int) {
	waits := make([]bool, len(g.formulas))
	for _, i := range left {
		waits[i] = true
	}
	rest := slices.Clone(g.needs)
	for len(left) > 0 {
		at := next(left, waits, rest)
		line = append(line, left[at])
		waits[left[at]] = false
		left = slices.Delete(left, at, at+1)
	}
	return line
}

// next answers which of those left comes next: the first that needs none that still waits. There always is one, since none is on a cycle. What waits no longer is dropped from the rest of what each needs, so that it is looked at once.
func next(left []int, waits []bool, rest [][]int) int {
candidates:
	for at, i := range left {
		for ; len(rest[i]) > 0; rest[i] = rest[i][1:] {
			if waits[rest[i][0]] {
				continue candidates
			}
		}
		return at
	}
	return 0
}
