package funcs

import (
	"quire/api"
	"quire/dec"
	"quire/val"
)

// way is how one number comes of two.
type way func(a, b api.Dec) (api.Dec, api.Errno)

// sums are the functions of any numbers.
func sums() map[string]function {
	return map[string]function{
		"SUM":        {1, api.MaxArgs, folded(dec.Add)},
		"PRODUCT":    {1, api.MaxArgs, folded(dec.Mul)},
		"MIN":        {1, api.MaxArgs, folded(choice(-1))},
		"MAX":        {1, api.MaxArgs, folded(choice(1))},
		"AVERAGE":    {1, api.MaxArgs, average},
		"COUNT":      {1, api.MaxArgs, counting(isNumber)},
		"COUNTA":     {1, api.MaxArgs, counting(isThere)},
		"COUNTBLANK": {1, 1, counting(isBlank)},
	}
}

// folded answers the function that makes one number of all.
func folded(w way) func(c *call) api.Value {
	return func(c *call) api.Value { return together(w, c.numbers()) }
}

// together answers what comes of all numbers, one by one from the left, and 0 of none.
func together(w way, l []api.Dec) api.Value {
	if len(l) == 0 {
		return howMany(0)
	}
	all := l[0]
	for _, n := range l[1:] {
		made, fault := w(all, n)
		if fault != api.OK {
			return val.Of(made, fault)
		}
		all = made
	}
	return val.Of(all, api.OK)
}

// choice answers the way to choose the one of two numbers that stands to the other as order says.
func choice(order int) way {
	return func(a, b api.Dec) (api.Dec, api.Errno) {
		if dec.Cmp(b, a) == order {
			return b, api.OK
		}
		return a, api.OK
	}
}

// average answers the sum divided by how many; of none that is a division by 0.
func average(c *call) api.Value {
	l := c.numbers()
	return val.Bin(api.ODiv, together(dec.Add, l), howMany(len(l)))
}

// counting answers the function that tells of how many values something is so.
func counting(so func(v api.Value, area bool) bool) func(c *call) api.Value {
	return func(c *call) api.Value {
		n := 0
		for v, area := range c.values() {
			if so(v, area) {
				n++
			}
		}
		return howMany(n)
	}
}

// isNumber: in an area only what is a number is one, alone also what can be read as one.
func isNumber(v api.Value, area bool) bool {
	if area {
		return v.Kind == api.VNum
	}
	return val.Num(v).Kind != api.VErr
}

func isThere(v api.Value, area bool) bool { return v.Kind != api.VEmpty }

func isBlank(v api.Value, area bool) bool {
	return v.Kind == api.VEmpty || v == val.Str("")
}

// reckonings are the functions of one number or two.
func reckonings() map[string]function {
	return map[string]function{
		"ABS":   {1, 1, unsigned},
		"SIGN":  {1, 1, sign},
		"INT":   {1, 1, floor},
		"MOD":   {2, 2, ofTwo(dec.Mod)},
		"POWER": {2, 2, ofTwo(dec.Pow)},
		"ROUND": {2, 2, round},
	}
}

func unsigned(c *call) api.Value {
	n := c.num(0)
	if dec.Sign(n) < 0 {
		return val.Of(dec.Neg(n))
	}
	return val.Of(n, api.OK)
}

func sign(c *call) api.Value { return howMany(dec.Sign(c.num(0))) }

func floor(c *call) api.Value { return val.Of(dec.Floor(c.num(0))) }

// ofTwo answers the function that makes a number of two.
func ofTwo(w way) func(c *call) api.Value {
	return func(c *call) api.Value { return val.Of(w(c.num(0), c.num(1))) }
}

// round: for dec.Round other places than it may round to are an error too, which val.Of makes ENum.
func round(c *call) api.Value { return val.Of(dec.Round(c.num(0), c.whole(1))) }
