package graph_test

import (
	"math/rand"
	"slices"
	"testing"

	"quire/api"
	"quire/book"
	"quire/eval"
	"quire/graph"
)

// P1803: laws.

// What is dirty by what is dirty is the same.
func TestDirtyOfDirty(t *testing.T) {
	r := rand.New(rand.NewSource(1803))
	for range 400 {
		b := anyBook(r)
		g := graph.New(b)
		for range 5 {
			l := anyPlaces(r)
			once := g.Dirty(l)
			alike(t, g.Dirty(once), once, "Dirty of Dirty", l, b)
			alike(t, g.Dirty(append(slices.Clone(l), once...)), once, "Dirty of places and Dirty", l, b)
		}
		if t.Failed() {
			t.FailNow()
		}
	}
}

// What is dirty by more places is more: what either of two lists makes dirty, both do, and nothing else.
func TestDirtyOfMore(t *testing.T) {
	r := rand.New(rand.NewSource(18031))
	for range 400 {
		b := anyBook(r)
		g := graph.New(b)
		for range 5 {
			l, more := anyPlaces(r), anyPlaces(r)
			both := g.Dirty(append(slices.Clone(l), more...))
			var want []place
			for _, p := range g.Formulas() {
				if slices.Contains(g.Dirty(l), p) || slices.Contains(g.Dirty(more), p) {
					want = append(want, p)
				}
			}
			alike(t, both, want, "Dirty of two lists", l, more, b)
		}
		if t.Failed() {
			t.FailNow()
		}
	}
}

// worth is what all cells of a book are worth.
func worth(b api.Book) map[place]api.Value {
	all := map[place]api.Value{}
	for i, l := range eval.Values(b) {
		for _, x := range l {
			all[place{Sheet: i, Col: x.Col, Row: x.Row}] = x.V
		}
	}
	return all
}

// What is not dirty, and was not changed itself, is worth the same, and as much on a cycle, behind any change of the cells at the places: by the graph of the book ahead of it, and by that of the one behind it.
func TestWhatIsNotDirtyStays(t *testing.T) {
	r := rand.New(rand.NewSource(18032))
	stayed := 0
	for range 600 {
		b := anyBook(r)
		var l []place
		for _, p := range anyPlaces(r) {
			if p.Sheet >= 0 && p.Sheet < len(b.Sheets) && p.Col >= 1 && p.Row >= 1 && p.Col <= 4 && p.Row <= 4 {
				l = append(l, p)
			}
		}
		changed := b
		for _, p := range l {
			changed = book.Put(changed, p.Sheet, api.Cell{Col: p.Col, Row: p.Row, In: anyInput(r, r.Intn(11))})
		}
		was, now := worth(b), worth(changed)
		for _, g := range []*graph.Graph{graph.New(b), graph.New(changed)} {
			touched := append(g.Dirty(l), l...)
			for _, p := range somePlaces {
				if !slices.Contains(touched, p) {
					stayed++
					is(t, now[p], was[p], "what a cell is worth, other cells changed", p, l, b, changed)
				}
			}
			for _, p := range g.Formulas() {
				if r.Intn(8) == 0 && !slices.Contains(touched, p) {
					is(t, eval.Cycle(changed, p.Sheet, p.Col, p.Row), eval.Cycle(b, p.Sheet, p.Col, p.Row), "Cycle, other cells changed", p, l, b, changed)
				}
			}
		}
		if t.Failed() {
			t.FailNow()
		}
	}
	is(t, stayed > 10000, true, "as many are not dirty as count")
}

// What is dirty can be reckoned in Order: by then all that is needed, and is on no cycle, is there.
func TestOrderOfDirty(t *testing.T) {
	r := rand.New(rand.NewSource(18033))
	for range 400 {
		b := anyBook(r)
		g := graph.New(b)
		list := g.Dirty(anyPlaces(r))
		line := g.Order(list)
		tied := g.Cycles()
		for i, p := range line {
			is(t, slices.Contains(list, p), true, "Order tells of what was asked", p, b)
			for _, q := range line[i:] {
				if !slices.Contains(tied, p) && !slices.Contains(tied, q) {
					is(t, slices.Contains(g.Needs(p), q), false, "Order: a formula ahead of one that it needs", p, q, b)
				}
			}
		}
		is(t, len(line), len(list), "Order tells all", b)
		alike(t, g.Order(line), line, "Order of Order", b)
		if t.Failed() {
			t.FailNow()
		}
	}
}

// Needs and Needed tell the same of formulas, from both sides.
func TestNeedsAndNeeded(t *testing.T) {
	r := rand.New(rand.NewSource(18034))
	for range 400 {
		b := anyBook(r)
		g := graph.New(b)
		for _, p := range g.Formulas() {
			for _, q := range g.Formulas() {
				is(t, slices.Contains(g.Needs(p), q), slices.Contains(g.Needed(q), p), "Needs and Needed", p, q, b)
			}
		}
		if t.Failed() {
			t.FailNow()
		}
	}
}
