package xml

import (
	"slices"
	"strconv"
	"strings"

	"quire/api"
)

// The signs that are written as references.
const (
	escapedInValues = "&<>\"\t\n\r"
	escapedInTexts  = "&<>\r"
)

// Write answers the text of a document with the element n.
func Write(n Node) (string, api.Errno) {
	if e := Right(n); e != api.OK {
		return "", e
	}
	var w writer
	w.element(n, "")
	if w.full {
		return "", api.ErrBig
	}
	return w.out.String(), api.OK
}

// writer is a text that is being written. It is full as soon as more would come than a part may have, and takes nothing from there on.
type writer struct {
	out  strings.Builder
	full bool
}

func (w *writer) put(pieces ...string) {
	for _, piece := range pieces {
		w.full = w.full || len(piece) > api.MaxPart-w.out.Len()
		if !w.full {
			w.out.WriteString(piece)
		}
	}
}

// escaped writes a text with references for the signs.
func (w *writer) escaped(text, signs string) {
	for !w.full {
		at := strings.IndexAny(text, signs)
		if at < 0 {
			break
		}
		w.put(text[:at], escape(text[at]))
		text = text[at+1:]
	}
	w.put(text)
}

func (w *writer) attribute(name, value string) {
	w.put(" ", name, "=\"")
	w.escaped(value, escapedInValues)
	w.put("\"")
}

// element writes an element where names without a prefix have the namespace outside.
func (w *writer) element(n Node, outside string) {
	w.put("<", n.Name)
	if n.Space != outside {
		w.attribute(xmlnsName, n.Space)
	}
	spaces := attrSpaces(n)
	for i, space := range spaces {
		w.attribute(xmlnsName+":"+prefix(i), space)
	}
	for _, a := range n.Attrs {
		w.attribute(prefixed(a, spaces), a.Value)
	}
	if len(n.Kids) == 0 {
		w.put("/>")
		return
	}
	w.put(">")
	for _, kid := range n.Kids {
		w.node(kid, n.Space)
	}
	w.put("</", n.Name, ">")
}

func (w *writer) node(n Node, outside string) {
	if isText(n) {
		w.escaped(n.Text, escapedInTexts)
		return
	}
	w.element(n, outside)
}

// prefix answers the one of an element's Space of that number among those of its Attrs.
func prefix(i int) string { return "a" + strconv.Itoa(i+1) }

// prefixed answers a's name with its prefix, if it needs one.
func prefixed(a Attr, spaces []string) string {
	switch a.Space {
	case "":
		return a.Name
	case xmlSpace:
		return xmlPrefix + ":" + a.Name
	}
	return prefix(slices.Index(spaces, a.Space)) + ":" + a.Name
}
