package funcs

import (
	"slices"

	"quire/api"
	"quire/dec"
	"quire/val"
)

// lookups are the functions that look for values in areas.
func lookups() map[string]function {
	return map[string]function{
		"INDEX":   {2, 3, index},
		"MATCH":   {2, 3, match},
		"VLOOKUP": {3, 4, lookUp},
		"COUNTIF": {2, 2, countIf},
		"SUMIF":   {2, 3, sumIf},
	}
}

// like tells whether v is what is sought, which is an error or empty of nothing.
func like(v, sought api.Value) bool {
	if v.Kind == api.VErr || v.Kind == api.VEmpty {
		return false
	}
	return v.Kind == sought.Kind && val.Cmp(v, sought) == 0
}

func index(c *call) api.Value {
	a, row, col := c.args[0], c.whole(1), c.wholeOr(2, 1)
	if a.Rows == 1 && !c.has(2) {
		row, col = 1, row
	}
	if !within(row, a.Rows) || !within(col, a.Cols) {
		return val.Err(api.ERef)
	}
	return a.V[(row-1)*a.Cols+col-1]
}

func match(c *call) api.Value {
	sought, a, how := c.scalar(0), c.args[1], c.wholeOr(2, 0)
	if how != 0 || a.Cols != 1 && a.Rows != 1 {
		return val.Err(api.EValue)
	}
	at := slices.IndexFunc(a.V, func(v api.Value) bool { return like(v, sought) })
	if at < 0 {
		return val.Err(api.ENA)
	}
	return howMany(at + 1)
}

func lookUp(c *call) api.Value {
	sought, a, col := c.scalar(0), c.args[1], c.whole(2)
	near := c.has(3) && c.truth(3)
	switch {
	case near || col < 1:
		return val.Err(api.EValue)
	case col > a.Cols:
		return val.Err(api.ERef)
	}
	for row := range slices.Chunk(a.V, a.Cols) {
		if like(row[0], sought) {
			return row[col-1]
		}
	}
	return val.Err(api.ENA)
}

func countIf(c *call) api.Value {
	sought, n := c.scalar(1), 0
	for _, v := range c.args[0].V {
		if like(v, sought) {
			n++
		}
	}
	return howMany(n)
}

func sumIf(c *call) api.Value {
	sought, a := c.scalar(1), c.args[0]
	from := a
	if c.has(2) {
		from = c.args[2]
	}
	if from.Cols != a.Cols || from.Rows != a.Rows {
		return val.Err(api.EValue)
	}
	var l []api.Dec
	for i, v := range a.V {
		if like(v, sought) && from.V[i].Kind == api.VNum {
			l = append(l, from.V[i].N)
		}
	}
	return together(dec.Add, l)
}

// places are the functions that tell how great areas are, and where they stand.
func places() map[string]function {
	return map[string]function{
		"ROWS":    {1, 1, told(func(a Arg) int { return a.Rows })},
		"COLUMNS": {1, 1, told(func(a Arg) int { return a.Cols })},
		"ROW":     {1, 1, standing(func(a Arg) int { return a.Row })},
		"COLUMN":  {1, 1, standing(func(a Arg) int { return a.Col })},
	}
}

// told answers the function that tells a number of its argument.
func told(of func(a Arg) int) func(c *call) api.Value {
	return func(c *call) api.Value { return howMany(of(c.args[0])) }
}

// standing answers the function that tells where an area stands; one value stands nowhere.
func standing(of func(a Arg) int) func(c *call) api.Value {
	return func(c *call) api.Value {
		if !c.args[0].Area {
			return val.Err(api.EValue)
		}
		return howMany(of(c.args[0]))
	}
}
