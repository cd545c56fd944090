package dec

import (
	"iter"
	"strconv"
	"strings"

	"quire/api"
)

// written is what a number's text is made of: digits ahead of the point and behind it, and an exponent.
type written struct {
	neg         bool
	whole, part string
	e           int
}

// Parse answers the number that s is the text of. If its digits don't fit, the last of them that is no nought stays, and so many ahead of it can't be told.
func Parse(s string) (api.Dec, api.Errno) {
	if len(s) > api.MaxText {
		return api.Dec{}, api.ErrSyntax
	}
	text, ok := read(s)
	if !ok {
		return api.Dec{}, api.ErrSyntax
	}
	w, fits := wide{}, true
	for place, digit := range text.digits() {
		if w, fits = sum(w, wide{lo: digit, e: place}); !fits {
			return api.Dec{}, api.ErrNum
		}
	}
	w.neg = text.neg
	return told(w, true)
}

// read takes s apart; false, if it is no number's text.
func read(s string) (written, bool) {
	s, neg := strings.CutPrefix(s, "-")
	whole, s := digitsAhead(s)
	text, ok := written{neg: neg, whole: whole}, whole != ""
	if behind, point := strings.CutPrefix(s, "."); point {
		text.part, s = digitsAhead(behind)
		ok = ok && text.part != ""
	}
	if s != "" {
		e, is := exponent(s)
		text.e = e
		ok = ok && is
	}
	return text, ok
}

// digitsAhead answers the digits that s begins with, and what stands behind them.
func digitsAhead(s string) (digits, behind string) {
	behind = strings.TrimLeft(s, "0123456789")
	return s[:len(s)-len(behind)], behind
}

// exponent answers the number of an exponent's text.
func exponent(s string) (int, bool) {
	if s[0] != 'E' && s[0] != 'e' {
		return 0, false
	}
	s, below := strings.CutPrefix(s[1:], "-")
	if !below {
		s = strings.TrimPrefix(s, "+")
	}
	digits, behind := digitsAhead(s)
	if len(digits) < 1 || len(digits) > 3 || behind != "" {
		return 0, false
	}
	e := 0
	for i := range len(digits) {
		e = e*10 + int(digits[i]-'0')
	}
	if below {
		e = -e
	}
	return e, true
}

// digits hands out the digits that are no noughts, each with its place: the exponent that it stands at.
func (t written) digits() iter.Seq2[int, uint64] {
	return func(yield func(int, uint64) bool) {
		all := t.whole + t.part
		place := t.e + len(t.whole)
		for i := range len(all) {
			place--
			if all[i] != '0' && !yield(place, uint64(all[i]-'0')) {
				return
			}
		}
	}
}

// Print answers a's text, without an exponent.
func Print(a api.Dec) string {
	l, fault := taken(a)
	if fault != api.OK {
		return "?"
	}
	var out []byte
	if l[0].neg {
		out = append(out, '-')
	}
	for place, digit := range l[0].digits() {
		if place == -1 {
			out = append(out, '.')
		}
		out = append(out, digit)
	}
	return string(out)
}

// digits hands out the digits of w, which has a hi of 0, each with its place: from the first one, or that ahead of the point, to the last one, or that ahead of the point.
func (w wide) digits() iter.Seq2[int, byte] {
	return func(yield func(int, byte) bool) {
		text := strconv.FormatUint(w.lo, 10)
		first := w.e + len(text) - 1
		for place := max(first, 0); place >= min(w.e, 0); place-- {
			digit := byte('0')
			if place <= first && place >= w.e {
				digit = text[first-place]
			}
			if !yield(place, digit) {
				return
			}
		}
	}
}
