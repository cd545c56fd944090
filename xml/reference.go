package xml

import (
	"iter"
	"slices"
	"strconv"
	"strings"

	"quire/api"
	"quire/utf"
)

// In texts and in values: the signs that stand for something else, and what an end of a line stands for.
const (
	textSigns  = "&\r"
	textLine   = "\n"
	valueSigns = "&\t\n\r"
	valueLine  = " "
)

// mostDigits is how many digits a reference by number may have.
const mostDigits = 8

// meaning answers what a text or a value stands for, as it was written. False: a reference in it is none.
func meaning(raw, signs, line string) (string, bool) {
	var out strings.Builder
	for piece, ok := range pieces(raw, signs, line) {
		if !ok {
			return "", false
		}
		out.WriteString(piece)
	}
	return out.String(), true
}

// pieces hands out what stands in raw, piece by piece, up to its end or to the first reference that is none: that comes with false.
func pieces(raw, signs, line string) iter.Seq2[string, bool] {
	return func(yield func(string, bool) bool) {
		for right := true; right && raw != ""; {
			piece, size := firstPiece(raw, signs, line)
			right = size > 0
			if !yield(piece, right) {
				return
			}
			raw = raw[size:]
		}
	}
}

// firstPiece answers what stands at the beginning of raw, and how many bytes tell it: 0, if it is a reference that is none.
func firstPiece(raw, signs, line string) (string, int) {
	switch at := strings.IndexAny(raw, signs); {
	case at < 0:
		return raw, len(raw)
	case at > 0:
		return raw[:at], at
	case raw[0] == '&':
		return reference(raw)
	case strings.HasPrefix(raw, "\r\n"):
		return line, 2
	}
	return line, 1
}

// reference answers the character of the reference that raw begins with, and how many bytes tell it: 0, if it is none.
func reference(raw string) (string, int) {
	inner, _, ended := strings.Cut(raw[1:], ";")
	if !ended {
		return "", 0
	}
	character := named(inner)
	if digits, ok := strings.CutPrefix(inner, "#x"); ok {
		character = numbered(digits, 16)
	} else if digits, ok := strings.CutPrefix(inner, "#"); ok {
		character = numbered(digits, 10)
	}
	if character == "" {
		return "", 0
	}
	return character, len(inner) + len("&;")
}

// named answers the character of that name, or nothing.
func named(name string) string {
	switch name {
	case "lt":
		return "<"
	case "gt":
		return ">"
	case "amp":
		return "&"
	case "quot":
		return "\""
	case "apos":
		return "'"
	}
	return ""
}

// numbered answers the character with that number, or nothing, if XML may not have it or there is none. What utf writes for a number that is no character tells another number.
func numbered(digits string, base int) string {
	n, err := strconv.ParseUint(digits, base, 32)
	if err != nil || len(digits) > mostDigits {
		return ""
	}
	number := []int{int(n)}
	character := utf.Text(number)
	if utf.Xml(character) != api.OK || !slices.Equal(utf.Runes(character), number) {
		return ""
	}
	return character
}

// escape answers the reference by which a sign is written.
func escape(sign byte) string {
	switch sign {
	case '&':
		return "&amp;"
	case '<':
		return "&lt;"
	case '>':
		return "&gt;"
	case '"':
		return "&quot;"
	}
	return "&#" + strconv.Itoa(int(sign)) + ";"
}
