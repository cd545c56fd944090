package xml

import (
	"strings"

	"quire/api"
	"quire/utf"
)

const blanks = " \t\n\r"

// What a remark begins and ends with.
const (
	remarkBegin = "<!--"
	remarkEnd   = "-->"
)

// Parse answers the element that s is a document of.
func Parse(s string) (Node, api.Errno) {
	if len(s) > api.MaxPart {
		return Node{}, api.ErrBig
	}
	if e := utf.Xml(s); e != api.OK {
		return Node{}, e
	}
	r := &reader{rest: s}
	return r.document()
}

// reader is what is known of a document while it is read.
type reader struct {
	rest     string
	elements int
	told     []telling // by all elements that are not ended yet: the nearest stand last
}

// telling is a namespace, and the prefix that it is told for: none, if names without a prefix have it.
type telling struct{ prefix, space string }

// qualified is a name with its prefix, or without one.
type qualified struct{ prefix, name string }

// attribute is one as it stands in the text: an Attr, or a telling.
type attribute struct {
	qualified
	value string
}

// tag is an element's beginning. If it is open, what the element has stands behind it, and an end.
type tag struct {
	qualified
	attributes []attribute
	open       bool
}

func (r *reader) document() (Node, api.Errno) {
	if !r.passDeclaration() || !r.passRemarks() || !r.atElement() {
		return Node{}, api.ErrXml
	}
	n, e := r.element(0)
	if e != api.OK {
		return Node{}, e
	}
	if !r.passRemarks() || r.rest != "" {
		return Node{}, api.ErrXml
	}
	return n, api.OK
}

// take passes over what, if the rest begins with it.
func (r *reader) take(what string) bool {
	rest, there := strings.CutPrefix(r.rest, what)
	r.rest = rest
	return there
}

// passTo passes over all up to the next end, and over that. False: there is none.
func (r *reader) passTo(end string) bool {
	_, rest, there := strings.Cut(r.rest, end)
	r.rest = rest
	return there
}

// passBlanks tells whether there were any.
func (r *reader) passBlanks() bool {
	rest := strings.TrimLeft(r.rest, blanks)
	some := len(rest) < len(r.rest)
	r.rest = rest
	return some
}

// passDeclaration passes over what may tell the version of XML. Without a blank behind its first letters it is none, and is left.
func (r *reader) passDeclaration() bool {
	rest, there := strings.CutPrefix(r.rest, "<?xml")
	if !there || rest == "" || !strings.Contains(blanks, rest[:1]) {
		return true
	}
	return r.passTo("?>")
}

// passRemarks passes over blanks and remarks. False: a remark is not ended.
func (r *reader) passRemarks() bool {
	r.passBlanks()
	for r.take(remarkBegin) {
		if !r.passTo(remarkEnd) {
			return false
		}
		r.passBlanks()
	}
	return true
}

func (r *reader) atElement() bool {
	return strings.HasPrefix(r.rest, "<") && nameSize(r.rest[1:]) > 0
}

// element reads an element that stands within so many others. The rest begins with it.
func (r *reader) element(within int) (Node, api.Errno) {
	if within >= api.MaxXmlDeep {
		return Node{}, api.ErrDeep
	}
	if r.elements >= api.MaxXmlNodes {
		return Node{}, api.ErrBig
	}
	r.elements++
	t, e := r.beginning()
	if e != api.OK {
		return Node{}, e
	}
	outside := len(r.told)
	n, ok := r.resolved(t)
	if !ok {
		return Node{}, api.ErrXml
	}
	if t.open {
		n.Kids, e = r.inside(t.qualified, within)
	}
	if e != api.OK {
		return Node{}, e
	}
	r.told = r.told[:outside]
	return n, api.OK
}

// beginning reads an element's beginning. What its names mean is asked behind it, since its last attribute may tell the namespace of all of them.
func (r *reader) beginning() (tag, api.Errno) {
	var t tag
	var ok bool
	r.take("<")
	if t.qualified, ok = r.name(); !ok {
		return tag{}, api.ErrXml
	}
	for {
		apart := r.passBlanks()
		switch {
		case r.take("/>"):
			return t, api.OK
		case r.take(">"):
			t.open = true
			return t, api.OK
		case !apart || nameSize(r.rest) == 0:
			return tag{}, api.ErrXml
		case len(t.attributes) >= api.MaxAttrs:
			return tag{}, api.ErrBig
		}
		a, ok := r.attribute()
		if !ok {
			return tag{}, api.ErrXml
		}
		t.attributes = append(t.attributes, a)
	}
}

// name reads a qualified name.
func (r *reader) name() (qualified, bool) {
	first := r.plainName()
	if !r.take(":") {
		return qualified{name: first}, first != ""
	}
	second := r.plainName()
	return qualified{first, second}, first != "" && second != ""
}

func (r *reader) plainName() string {
	size := nameSize(r.rest)
	name := r.rest[:size]
	r.rest = r.rest[size:]
	return name
}

// attribute reads an attribute, from its name on.
func (r *reader) attribute() (attribute, bool) {
	name, ok := r.name()
	if !ok {
		return attribute{}, false
	}
	r.passBlanks()
	if !r.take("=") {
		return attribute{}, false
	}
	r.passBlanks()
	value, ok := r.value()
	return attribute{name, value}, ok
}

// value reads an attribute's value and the marks around it.
func (r *reader) value() (string, bool) {
	if r.rest == "" || r.rest[0] != '"' && r.rest[0] != '\'' {
		return "", false
	}
	raw, rest, ended := strings.Cut(r.rest[1:], r.rest[:1])
	if !ended || strings.Contains(raw, "<") {
		return "", false
	}
	r.rest = rest
	return meaning(raw, valueSigns, valueLine)
}

// inside reads what the element of that name has, that stands within so many others, and its end.
func (r *reader) inside(name qualified, within int) ([]Node, api.Errno) {
	var kids []Node
	var text strings.Builder
reading:
	for {
		switch {
		case r.take("</"):
			if !r.endOf(name) {
				return nil, api.ErrXml
			}
			break reading
		case r.take(remarkBegin):
			if !r.passTo(remarkEnd) {
				return nil, api.ErrXml
			}
		case r.atElement():
			kid, e := r.element(within + 1)
			if e != api.OK {
				return nil, e
			}
			kids = append(withText(kids, &text), kid)
		case !r.readText(&text):
			return nil, api.ErrXml
		}
	}
	return withText(kids, &text), api.OK
}

// endOf reads an element's end, from its name on.
func (r *reader) endOf(name qualified) bool {
	got, ok := r.name()
	r.passBlanks()
	return ok && got == name && r.take(">")
}

// readText reads on to the next sign that ends a text. False: nothing stands ahead of it, or no right text.
func (r *reader) readText(text *strings.Builder) bool {
	end := strings.IndexByte(r.rest, '<')
	if end < 0 {
		end = len(r.rest)
	}
	piece, ok := meaning(r.rest[:end], textSigns, textLine)
	text.WriteString(piece)
	r.rest = r.rest[end:]
	return ok && end > 0
}

// withText answers the kids and behind them the text that was gathered, if it is not empty. It is gathered anew from there on.
func withText(kids []Node, text *strings.Builder) []Node {
	if text.Len() > 0 {
		kids = append(kids, Node{Text: text.String()})
		text.Reset()
	}
	return kids
}
