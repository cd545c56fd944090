package numfmt

import (
	"strings"

	"quire/api"
	"quire/dec"
	"quire/val"
)

// Render answers how v is displayed by the code. A code that is none has no sections, as General has none.
func Render(code string, v api.Value) string {
	l, _ := Parse(code)
	switch {
	case len(l) == 0 || !val.Right(v):
		return val.Show(v)
	case v.Kind == api.VNum:
		return number(l, v)
	case v.Kind == api.VText && len(l) == maxSections:
		return strings.ReplaceAll(l[maxSections-1].Before, string([]byte{hole}), v.S)
	}
	return val.Show(v)
}

// number answers how the number v is displayed by one of the sections.
func number(l []Section, v api.Value) string {
	sign := dec.Sign(v.N)
	s := chosen(l, sign)
	size, fault := scaled(s, v.N)
	if fault != api.OK {
		return val.Show(v)
	}
	out := s.Before + figures(s, size) + s.After
	if len(l) == 1 && sign < 0 && dec.Sign(size) != 0 {
		return "-" + out
	}
	return out
}

// chosen answers the section of numbers with the sign.
func chosen(l []Section, sign int) Section {
	switch {
	case sign < 0 && len(l) > 1:
		return l[1]
	case sign == 0 && len(l) > 2:
		return l[2]
	}
	return l[0]
}

// scaled answers what s displays of n: without its sign, as a percentage, rounded.
func scaled(s Section, n api.Dec) (api.Dec, api.Errno) {
	fault := api.OK
	if dec.Sign(n) < 0 {
		n, fault = dec.Neg(n)
	}
	if fault == api.OK {
		n, fault = dec.Mul(n, api.Dec{C: 1, E: 2 * s.Percent})
	}
	if fault != api.OK {
		return api.Dec{}, fault
	}
	return dec.Round(n, s.Part)
}

// figures answers the digits of n, which is rounded, as s asks for them. A lone nought ahead of the point is dropped: it comes back where s asks for one.
func figures(s Section, n api.Dec) string {
	if !s.Digits {
		return ""
	}
	whole, part, _ := strings.Cut(dec.Print(n), ".")
	if whole == "0" {
		whole = ""
	}
	whole = noughts(s.Zeros-len(whole)) + whole
	if s.Group {
		whole = grouped(whole)
	}
	if !s.Point {
		return whole
	}
	return whole + "." + part + noughts(s.PartZero-len(part))
}

// noughts answers so many; none, if n is below 0.
func noughts(n int) string { return strings.Repeat("0", max(n, 0)) }

// grouped answers the digits with a comma ahead of every three from the right, but for the first ones.
func grouped(digits string) string {
	var out []byte
	for i := range len(digits) {
		if i > 0 && (len(digits)-i)%3 == 0 {
			out = append(out, ',')
		}
		out = append(out, digits[i])
	}
	return string(out)
}
