package lex

import (
	"strings"

	"quire/api"
	"quire/cells"
	"quire/dec"
	"quire/utf"
)

// marks are the operators and what else has a sign of its own; a longer one stands ahead of those that it begins with.
var marks = [17]string{"<>", "<=", ">=", "<", ">", "=", "+", "-", "*", "/", "^", "&", "%", "(", ")", ",", ":"}

// Each of the functions below that answers a Token reads the one that s begins with, and answers how many bytes it has, too. What it answers beside an error does not count.

// number reads a Num.
func number(s string) (Token, int, api.Errno) {
	behind := pastDigits(s, s)
	if part, is := cutOne(behind, "."); is {
		behind = pastDigits(part, behind)
	}
	if power, is := cutOne(behind, "Ee"); is {
		power, _ = cutOne(power, "+-")
		behind = pastDigits(power, behind)
	}
	size := len(s) - len(behind)
	n, fault := dec.Parse(s[:size])
	return Token{Kind: Num, N: n}, size, fault
}

// text reads a Text.
func text(s string) (Token, int, api.Errno) {
	size := quoted(s)
	if size == 0 {
		return Token{}, 0, api.ErrSyntax
	}
	inner := strings.ReplaceAll(s[1:size-1], `""`, `"`)
	if len(inner) > api.MaxText {
		return Token{}, 0, api.ErrBig
	}
	return Token{Kind: Text, S: inner}, size, utf.Xml(inner)
}

// run reads a Ref or a Name. A `(` makes a Name of what could be a cell, since some calls are written as cells are.
func run(s string) (Token, int, api.Errno) {
	word, behind := ahead(s, within)
	if strings.HasPrefix(behind, "!") && !strings.ContainsAny(word, "$.") {
		return onSheet(s, len(word))
	}
	r, fault := cells.Parse(word)
	if fault != api.ErrSyntax && !strings.HasPrefix(behind, "(") {
		return Token{Kind: Ref, R: r}, len(word), fault
	}
	if strings.Contains(word, "$") {
		return Token{}, 0, api.ErrSyntax
	}
	return Token{Kind: Name, S: word}, len(word), api.OK
}

// onSheet reads a Ref whose sheet's name is written in so many bytes. Of a name that does not end these are 0, and there stands its quote, not the `!`.
func onSheet(s string, name int) (Token, int, api.Errno) {
	behind, is := strings.CutPrefix(s[name:], "!")
	if !is {
		return Token{}, 0, api.ErrSyntax
	}
	cell, _ := ahead(behind, place)
	size := name + len("!") + len(cell)
	r, fault := cells.Parse(s[:size])
	return Token{Kind: Ref, R: r}, size, fault
}

// mark reads a Mark.
func mark(s string) (Token, int, api.Errno) {
	for _, m := range marks {
		if strings.HasPrefix(s, m) {
			return Token{Kind: Mark, S: m}, len(m), api.OK
		}
	}
	return Token{}, 0, api.ErrSyntax
}

// quoted answers how many bytes of s stand up to the quote that ends the one which it begins with; 0, if none does. Two beside each other end nothing.
func quoted(s string) int {
	quote := s[0]
	for at := 1; at < len(s); at++ {
		if s[at] != quote {
			continue
		}
		at++
		if at == len(s) || s[at] != quote {
			return at
		}
	}
	return 0
}

// pastDigits answers what stands behind the digits that s begins with; otherwise, if it begins with none.
func pastDigits(s, otherwise string) string {
	found, behind := ahead(s, digits)
	if found == "" {
		return otherwise
	}
	return behind
}

// ahead answers those of the signs that s begins with, and what stands behind them.
func ahead(s, signs string) (found, behind string) {
	behind = strings.TrimLeft(s, signs)
	return s[:len(s)-len(behind)], behind
}

// cutOne answers s without its first byte, if that is one of the signs; else s.
func cutOne(s, signs string) (string, bool) {
	if s == "" || !among(signs, s[0]) {
		return s, false
	}
	return s[1:], true
}

func among(signs string, b byte) bool { return strings.IndexByte(signs, b) >= 0 }
