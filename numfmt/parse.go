package numfmt

import (
	"iter"
	"strings"

	"quire/api"
)

// How much a code may have.
const (
	maxBytes    = 64
	maxSections = 4
	maxWhole    = 20
	maxPart     = 18
	maxPercent  = 4
)

// hole stands in a text's section for the text. No code has this byte, so that no literal does.
const hole = 0

// Parse answers the sections of a code. How much of each thing there is is asked behind all sections, since what is no code goes ahead.
func Parse(code string) ([]Section, api.Errno) {
	if len(code) > maxBytes {
		return nil, api.ErrBig
	}
	if code == general {
		return nil, api.OK
	}
	if !visible(code) {
		return nil, api.ErrSyntax
	}
	var all []Section
	big := false
	for one, ok := range sections(code) {
		if !ok {
			return nil, api.ErrSyntax
		}
		all = append(all, one)
		big = big || one.Whole > maxWhole || one.Part > maxPart || one.Percent > maxPercent
	}
	if big {
		return nil, api.ErrBig
	}
	return all, api.OK
}

// visible tells whether a code has just the bytes that may be there, in literals too.
func visible(code string) bool {
	for i := range len(code) {
		if code[i] < 0x20 || code[i] > 0x7e {
			return false
		}
	}
	return true
}

// sections hands out the sections of a code, up to the first that is none, which comes with false.
func sections(code string) iter.Seq2[Section, bool] {
	return func(yield func(Section, bool) bool) {
		r := reader{rest: code}
		for n := 1; n <= maxSections; n++ {
			one, ok := r.section(n == maxSections)
			more := strings.HasPrefix(r.rest, ";")
			ok = ok && (more || r.rest == "")
			if !yield(one, ok) || !ok || !more {
				return
			}
			r.rest = r.rest[1:]
		}
		yield(Section{}, false)
	}
}

// reader reads a code; rest is what stands behind that which is read.
type reader struct {
	rest string
}

// section reads one; false, if its digits are none. Whatever else can't be there is not read, so that the section does not end where it must.
func (r *reader) section(text bool) (Section, bool) {
	s := Section{Text: text}
	s.Before = r.literals(&s)
	if text {
		return s, true
	}
	ok := r.digits(&s)
	s.After = r.literals(&s)
	return s, ok
}

// literals reads a head or a tail, up to what belongs to neither, and counts what makes s a percentage.
func (r *reader) literals(s *Section) string {
	var out []byte
reading:
	for r.rest != "" {
		size := 1
		switch sign := r.rest[0]; sign {
		case '"':
			inner, _, closed := strings.Cut(r.rest[1:], `"`)
			if !closed {
				break reading
			}
			out = append(out, inner...)
			size = len(inner) + 2
		case '\\':
			if len(r.rest) == 1 {
				break reading
			}
			out = append(out, r.rest[1])
			size = 2
		case '%':
			if s.Text {
				break reading
			}
			out = append(out, sign)
			s.Percent++
		case '@':
			if !s.Text {
				break reading
			}
			out = append(out, hole)
		case ' ', '$', '-', '+', '(', ')', '/', ':':
			out = append(out, sign)
		default:
			break reading
		}
		r.rest = r.rest[size:]
	}
	return string(out)
}

// digits reads the digits of s, or none; false, if they stand in a wrong order, or a comma is not between two of them.
func (r *reader) digits(s *Section) bool {
	whole := r.run("#0,")
	if whole == "" {
		return true
	}
	bare := strings.ReplaceAll(whole, ",", "")
	s.Digits = true
	s.Group = bare != whole
	s.Whole, s.Zeros = len(bare), strings.Count(bare, "0")
	ok := !strings.Contains(bare, "0#") && !strings.Contains(","+whole+",", ",,")
	if !strings.HasPrefix(r.rest, ".") {
		return ok
	}
	r.rest = r.rest[1:]
	part := r.run("#0")
	s.Point = true
	s.Part, s.PartZero = len(part), strings.Count(part, "0")
	return ok && !strings.Contains(part, "#0")
}

// run reads all that is of these signs.
func (r *reader) run(signs string) string {
	behind := strings.TrimLeft(r.rest, signs)
	got := r.rest[:len(r.rest)-len(behind)]
	r.rest = behind
	return got
}
