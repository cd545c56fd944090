package funcs

import (
	"strings"

	"quire/api"
	"quire/numfmt"
	"quire/utf"
	"quire/val"
)

// pieces are the functions that take texts apart and look into them.
func pieces() map[string]function {
	return map[string]function{
		"LEN":        {1, 1, func(c *call) api.Value { return howMany(utf.Count(c.text(0))) }},
		"LEFT":       {1, 2, left},
		"RIGHT":      {1, 2, right},
		"MID":        {3, 3, middle},
		"FIND":       {2, 3, find},
		"SUBSTITUTE": {3, 4, substitute},
		"EXACT":      {2, 2, func(c *call) api.Value { return val.Truth(c.text(0) == c.text(1)) }},
	}
}

func left(c *call) api.Value { return cut(c.text(0), 0, c.wholeOr(1, 1)) }

// right: there may be fewer characters than are asked for, so that the first one would stand ahead of the text, where utf.Cut begins at its beginning.
func right(c *call) api.Value {
	s, n := c.text(0), c.wholeOr(1, 1)
	return cut(s, utf.Count(s)-n, n)
}

func middle(c *call) api.Value {
	s, place, n := c.text(0), c.whole(1), c.whole(2)
	if place < 1 {
		return val.Err(api.EValue)
	}
	return cut(s, place-1, n)
}

// cut answers n characters of s.
func cut(s string, from, n int) api.Value {
	if n < 0 {
		return val.Err(api.EValue)
	}
	return val.Str(utf.Cut(s, from, n))
}

func find(c *call) api.Value {
	sought, s, place := c.text(0), c.text(1), c.wholeOr(2, 1)
	all := utf.Count(s)
	if place < 1 || place > all+1 {
		return val.Err(api.EValue)
	}
	rest := utf.Cut(s, place-1, all)
	at := strings.Index(rest, sought)
	if at < 0 {
		return val.Err(api.EValue)
	}
	return howMany(place + utf.Count(rest[:at]))
}

func substitute(c *call) api.Value {
	s, old, put := c.text(0), c.text(1), c.text(2)
	which := c.wholeOr(3, 1)
	switch {
	case which < 1:
		return val.Err(api.EValue)
	case old == "":
		return val.Str(s)
	case c.has(3):
		return val.Str(replaced(s, old, put, which))
	}
	return val.Str(strings.ReplaceAll(s, old, put))
}

// replaced answers s with put in the one of old's places that has that number.
func replaced(s, old, put string, which int) string {
	from := 0
	for place := 1; ; place++ {
		at := strings.Index(s[from:], old)
		if at < 0 {
			return s
		}
		from += at + len(old)
		if place == which {
			return s[:from-len(old)] + put + s[from:]
		}
	}
}

// turns are the functions that make one text of others, or another value.
func turns() map[string]function {
	return map[string]function{
		"UPPER":  {1, 1, turned(utf.Upper)},
		"LOWER":  {1, 1, turned(utf.Lower)},
		"TRIM":   {1, 1, turned(utf.Trim)},
		"CONCAT": {1, api.MaxArgs, concat},
		"REPT":   {2, 2, repeat},
		"VALUE":  {1, 1, value},
		"TEXT":   {2, 2, rendered},
	}
}

// turned answers the function that turns a text by another one.
func turned(turn func(s string) string) func(c *call) api.Value {
	return func(c *call) api.Value { return val.Str(turn(c.text(0))) }
}

// concat joins all values. What is too long already stays so, and is only gone through for an error.
func concat(c *call) api.Value {
	var all strings.Builder
	for v := range c.counted(val.Text, api.VEmpty, api.VNum, api.VText, api.VBool) {
		if all.Len() <= api.MaxText {
			all.WriteString(v.S)
		}
	}
	return val.Str(all.String())
}

// repeat does not make what would be too long: it might be very long.
func repeat(c *call) api.Value {
	s, n := c.text(0), c.whole(1)
	switch {
	case n < 0:
		return val.Err(api.EValue)
	case s == "":
		return val.Str(s)
	case n > api.MaxText/len(s):
		return val.Err(api.EValue)
	}
	return val.Str(strings.Repeat(s, n))
}

// value reads a text as a number, so that of what is no text the text is read.
func value(c *call) api.Value { return val.Num(val.Text(c.plain(0))) }

func rendered(c *call) api.Value {
	v, code := c.scalar(0), c.text(1)
	if _, fault := numfmt.Parse(code); fault != api.OK {
		return val.Err(api.EValue)
	}
	return val.Str(numfmt.Render(code, v))
}
