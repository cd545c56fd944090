package val

import (
	"strings"

	"quire/api"
	"quire/dec"
	"quire/utf"
)

// Num answers v as a number. FALSE goes the way of what is empty: both are 0.
func Num(v api.Value) api.Value {
	v = taken(v)
	switch v.Kind {
	case api.VText:
		return numberOf(v.S)
	case api.VBool:
		if v.B {
			return Of(api.Dec{C: 1}, api.OK)
		}
		fallthrough
	case api.VEmpty:
		return Of(api.Dec{}, api.OK)
	}
	return v
}

// numberOf answers the number that a text tells. A text that is no number's is no fault of reckoning, so that it is another error.
func numberOf(s string) api.Value {
	n, fault := dec.Parse(strings.Trim(s, " "))
	if fault == api.ErrSyntax {
		return Err(api.EValue)
	}
	return Of(n, fault)
}

// Text answers v as a text. What is made here is short, and of signs that XML may have, so that it is a right one.
func Text(v api.Value) api.Value {
	v = taken(v)
	text := api.Value{Kind: api.VText}
	switch v.Kind {
	case api.VErr, api.VText:
		return v
	case api.VNum:
		text.S = dec.Print(v.N)
	case api.VBool:
		text.S = word(v.B)
	}
	return text
}

// word answers how a bool is written.
func word(b bool) string {
	if b {
		return yes
	}
	return no
}

// Bool answers v as a bool. The text FALSE goes the way of what is empty.
func Bool(v api.Value) api.Value {
	v = taken(v)
	switch v.Kind {
	case api.VNum:
		return Truth(dec.Sign(v.N) != 0)
	case api.VText:
		if utf.Upper(v.S) == yes {
			return Truth(true)
		}
		if utf.Upper(v.S) != no {
			return Err(api.EValue)
		}
		fallthrough
	case api.VEmpty:
		return Truth(false)
	}
	return v
}

// Typed answers what a text is that is typed into a cell. A number that can't be told stays the text that it is.
func Typed(s string) api.Value {
	if s == "" {
		return api.Value{}
	}
	if n, fault := dec.Parse(s); fault == api.OK {
		return Of(n, fault)
	}
	if s == yes || s == no {
		return Truth(s == yes)
	}
	if code, is := ErrCode(s); is {
		return Err(code)
	}
	return Str(strings.TrimPrefix(s, "'"))
}

// Show answers how v is written.
func Show(v api.Value) string {
	v = taken(v)
	if v.Kind == api.VErr {
		return ErrName(v.E)
	}
	return Text(v).S
}
