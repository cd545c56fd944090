package xml

import (
	"iter"
	"slices"

	"quire/api"
	"quire/utf"
)

// mostSpaces is how many unlike Spaces the Attrs of one element may have.
const mostSpaces = 10

// Right answers why n can't be written as an element, or api.OK. Each reason is asked of all nodes ahead of the next reason.
func Right(n Node) api.Errno {
	switch {
	case !isElement(n) || !every(n, wellBuilt):
		return api.ErrArg
	case tooDeep(n):
		return api.ErrDeep
	case tooMany(n) || !every(n, fewAttrs):
		return api.ErrBig
	case !every(n, wellNamed):
		return api.ErrName
	case !every(n, wellSpelt):
		return api.ErrText
	case !every(n, unlike):
		return api.ErrTwice
	}
	return api.OK
}

// nodes hands out n and all that is in it, each with how many others it stands within. It keeps what is left to go through by itself, so that calls do not nest as deep as a tree may.
func nodes(n Node) iter.Seq2[int, Node] {
	return func(yield func(int, Node) bool) {
		left := [][]Node{{n}}
		for len(left) > 0 {
			within := len(left) - 1
			if len(left[within]) == 0 {
				left = left[:within]
				continue
			}
			next := left[within][0]
			left[within] = left[within][1:]
			if !yield(within, next) {
				return
			}
			left = append(left, next.Kids)
		}
	}
}

// every tells whether n and all that is in it hold to a rule.
func every(n Node, rule func(Node) bool) bool {
	for _, node := range nodes(n) {
		if !rule(node) {
			return false
		}
	}
	return true
}

// wellBuilt tells an element or a text that is not empty, without two texts beside each other in it.
func wellBuilt(n Node) bool {
	for i := 1; i < len(n.Kids); i++ {
		if isText(n.Kids[i-1]) && isText(n.Kids[i]) {
			return false
		}
	}
	return isElement(n) || isText(n) && n.Text != ""
}

func tooDeep(n Node) bool {
	for within, node := range nodes(n) {
		if isElement(node) && within >= api.MaxXmlDeep {
			return true
		}
	}
	return false
}

func tooMany(n Node) bool {
	elements := 0
	for _, node := range nodes(n) {
		if isElement(node) {
			elements++
		}
		if elements > api.MaxXmlNodes {
			return true
		}
	}
	return false
}

// fewAttrs tells whether n's Attrs, what tells their Spaces, and what may tell its own Space are as few as an element may have. It looks at the Attrs' number first, since Spaces are gone through for each of them.
func fewAttrs(n Node) bool {
	if len(n.Attrs) > api.MaxAttrs-1 {
		return false
	}
	spaces := len(attrSpaces(n))
	return len(n.Attrs)+spaces <= api.MaxAttrs-1 && spaces <= mostSpaces
}

// attrSpaces answers the unlike Spaces of n's Attrs that must be told, in the order in which they first come.
func attrSpaces(n Node) []string {
	var spaces []string
	for _, a := range n.Attrs {
		if a.Space != "" && a.Space != xmlSpace && !slices.Contains(spaces, a.Space) {
			spaces = append(spaces, a.Space)
		}
	}
	return spaces
}

// wellNamed tells whether n's names and its Attrs' can be written, and can be told from what tells namespaces.
func wellNamed(n Node) bool {
	if isText(n) {
		return true
	}
	for _, a := range n.Attrs {
		if !Name(a.Name) || a.Space == "" && a.Name == xmlnsName || a.Space == xmlnsSpace {
			return false
		}
	}
	return Name(n.Name) && n.Space != xmlnsSpace
}

// wellSpelt tells whether XML may have all of n's texts.
func wellSpelt(n Node) bool {
	for _, a := range n.Attrs {
		if utf.Xml(a.Space) != api.OK || utf.Xml(a.Value) != api.OK {
			return false
		}
	}
	return utf.Xml(n.Space) == api.OK && utf.Xml(n.Text) == api.OK
}

func unlike(n Node) bool { return !twice(n.Attrs) }
