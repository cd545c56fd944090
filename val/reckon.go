package val

import (
	"cmp"

	"quire/api"
	"quire/dec"
	"quire/utf"
)

// Cmp answers -1, 0 or 1, as a stands ahead of, like or behind b; 0, if one of them is an error. The kinds' numbers rise as the kinds stand behind each other, and bools stand as their numbers do.
func Cmp(a, b api.Value) int {
	a, b = taken(a), taken(b)
	if _, failed := firstError(a, b); failed {
		return 0
	}
	a, b = filled(a, b), filled(b, a)
	if a.Kind != b.Kind {
		return cmp.Compare(a.Kind, b.Kind)
	}
	switch a.Kind {
	case api.VText:
		return cmp.Compare(utf.Lower(a.S), utf.Lower(b.S))
	case api.VBool:
		a, b = Num(a), Num(b)
		fallthrough
	case api.VNum:
		return dec.Cmp(a.N, b.N)
	}
	return 0
}

// filled answers v, or in place of what is empty that which is nought in the other one's kind.
func filled(v, other api.Value) api.Value {
	if v == (api.Value{}) {
		v.Kind = other.Kind
	}
	return v
}

// firstError answers the first error among values.
func firstError(l ...api.Value) (api.Value, bool) {
	for _, v := range l {
		if v.Kind == api.VErr {
			return v, true
		}
	}
	return api.Value{}, false
}

// Bin answers what an operator makes of its two sides.
func Bin(op int, a, b api.Value) api.Value {
	a, b = taken(a), taken(b)
	if fault, failed := firstError(a, b); failed {
		return fault
	}
	switch op {
	case api.OAdd:
		return reckoned(dec.Add, a, b)
	case api.OSub:
		return reckoned(dec.Sub, a, b)
	case api.OMul:
		return reckoned(dec.Mul, a, b)
	case api.ODiv:
		return reckoned(dec.Div, a, b)
	case api.OPow:
		return reckoned(dec.Pow, a, b)
	case api.OCat:
		return Str(Text(a).S + Text(b).S)
	}
	return compared(op, Cmp(a, b))
}

// compared answers whether what an operator says is so of two values that stand to each other in that order.
func compared(op, order int) api.Value {
	switch op {
	case api.OEq:
		return Truth(order == 0)
	case api.ONe:
		return Truth(order != 0)
	case api.OLt:
		return Truth(order < 0)
	case api.OLe:
		return Truth(order <= 0)
	case api.OGt:
		return Truth(order > 0)
	case api.OGe:
		return Truth(order >= 0)
	}
	return Err(api.EValue)
}

// reckoned answers what a way of dec makes of a and b as numbers.
func reckoned(way func(a, b api.Dec) (api.Dec, api.Errno), a, b api.Value) api.Value {
	a, b = Num(a), Num(b)
	if fault, failed := firstError(a, b); failed {
		return fault
	}
	return Of(way(a.N, b.N))
}

// Neg answers a with the other sign.
func Neg(a api.Value) api.Value {
	if a = Num(a); a.Kind == api.VErr {
		return a
	}
	return Of(dec.Neg(a.N))
}

// Pct answers a hundredth of a.
func Pct(a api.Value) api.Value {
	return reckoned(dec.Mul, a, Of(api.Dec{C: 1, E: -2}, api.OK))
}
