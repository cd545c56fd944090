package funcs

import (
	"quire/api"
	"quire/val"
)

// choices are the functions that answer one of their arguments. The others' errors do not count.
func choices() map[string]function {
	return map[string]function{
		"IF":      {2, 3, ifElse},
		"IFERROR": {2, 2, ifError},
		"CHOOSE":  {2, api.MaxArgs, choose},
	}
}

func ifElse(c *call) api.Value {
	switch {
	case c.truth(0):
		return c.plain(1)
	case c.has(2):
		return c.plain(2)
	}
	return val.Truth(false)
}

func ifError(c *call) api.Value {
	if v := c.plain(0); v.Kind != api.VErr {
		return v
	}
	return c.plain(1)
}

func choose(c *call) api.Value {
	i := c.whole(0)
	if i < 1 || !c.has(i) {
		return val.Err(api.EValue)
	}
	return c.plain(i)
}

// bools are the functions of bools, and those without arguments.
func bools() map[string]function {
	return map[string]function{
		"AND":   {1, api.MaxArgs, judged(func(yes, all int) bool { return yes == all })},
		"OR":    {1, api.MaxArgs, judged(func(yes, all int) bool { return yes > 0 })},
		"XOR":   {1, api.MaxArgs, judged(func(yes, all int) bool { return yes%2 == 1 })},
		"NOT":   {1, 1, func(c *call) api.Value { return val.Truth(!c.truth(0)) }},
		"NA":    {0, 0, always(val.Err(api.ENA))},
		"TRUE":  {0, 0, always(val.Truth(true))},
		"FALSE": {0, 0, always(val.Truth(false))},
	}
}

// judged answers the function that judges by how many of all bools are TRUE.
func judged(so func(yes, all int) bool) func(c *call) api.Value {
	return func(c *call) api.Value {
		yes, all := 0, 0
		for v := range c.counted(val.Bool, api.VBool, api.VNum) {
			all++
			if v.B {
				yes++
			}
		}
		if all == 0 {
			return val.Err(api.EValue)
		}
		return val.Truth(so(yes, all))
	}
}

// always answers the function that answers v.
func always(v api.Value) func(c *call) api.Value {
	return func(c *call) api.Value { return v }
}

// kinds are the functions that tell what kind a value is of.
func kinds() map[string]function {
	return map[string]function{
		"ISBLANK":   {1, 1, ofKind(api.VEmpty)},
		"ISNUMBER":  {1, 1, ofKind(api.VNum)},
		"ISTEXT":    {1, 1, ofKind(api.VText)},
		"ISLOGICAL": {1, 1, ofKind(api.VBool)},
		"ISERROR":   {1, 1, ofKind(api.VErr)},
	}
}

// ofKind answers the function that tells whether a value is of a kind.
func ofKind(kind int) func(c *call) api.Value {
	return func(c *call) api.Value { return val.Truth(c.plain(0).Kind == kind) }
}
