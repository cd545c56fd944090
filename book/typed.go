package book

import (
	"strings"

	"quire/api"
	"quire/expr"
	"quire/val"
)

// Marks at the beginning of what is typed.
const (
	ahead = "=" // of a formula
	plain = "'" // of a text that would be something else without it
)

// Typed answers what a text is that is typed into a cell.
func Typed(text string) (api.Input, api.Errno) {
	if !saysFormula(text) {
		return api.Input{V: val.Typed(text)}, api.OK
	}
	x, _, fault := expr.Parse(strings.TrimPrefix(text, ahead))
	if fault == api.OK {
		fault = expr.Right(x) // it may be written longer than it was typed
	}
	if fault != api.OK {
		return api.Input{}, fault
	}
	return api.Input{Formula: true, F: x}, api.OK
}

// Show answers what is typed for in.
func Show(in api.Input) string {
	if in.Formula {
		text, _ := expr.Print(in.F)
		return ahead + text
	}
	text := val.Show(in.V)
	if saysFormula(text) || val.Typed(text) != in.V {
		return plain + text
	}
	return text
}

// saysFormula tells whether a text that is typed is to be a formula: the mark alone is a text.
func saysFormula(text string) bool { return len(text) > len(ahead) && strings.HasPrefix(text, ahead) }
