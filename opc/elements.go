package opc

import (
	"iter"
	"slices"

	"quire/xml"
)

// The namespaces of the files that are no parts.
const (
	typesSpace = "http://schemas.openxmlformats.org/package/2006/content-types"
	relsSpace  = "http://schemas.openxmlformats.org/package/2006/relationships"
)

// Elements and attributes of the types' file.
const (
	typesName    = "Types"
	defaultName  = "Default"
	overrideName = "Override"
	extension    = "Extension"
	partNamed    = "PartName"
	contentType  = "ContentType"
)

// Elements and attributes of a file of what leads.
const (
	relationshipsName = "Relationships"
	relationshipName  = "Relationship"
	idName            = "Id"
	typeName          = "Type"
	targetName        = "Target"
	targetMode        = "TargetMode"
	internal          = "Internal"
)

// element answers an element with these attributes: a name, its value, another name and so on.
func element(space, name string, attrs ...string) xml.Node {
	n := xml.Node{Space: space, Name: name}
	for pair := range slices.Chunk(attrs, 2) {
		n.Attrs = append(n.Attrs, xml.Attr{Name: pair[0], Value: pair[1]})
	}
	return n
}

// elements hands out n's kids of a name, in the namespace that n has.
func elements(n xml.Node, name string) iter.Seq[xml.Node] {
	return func(yield func(xml.Node) bool) {
		for _, kid := range n.Kids {
			if kid.Space == n.Space && kid.Name == name && !yield(kid) {
				return
			}
		}
	}
}

// madeOf tells whether n is an element of that name whose kids are all of these kinds. Texts between them do not count.
func madeOf(n xml.Node, space, name string, kinds ...string) bool {
	for _, kid := range n.Kids {
		if kid.Name != "" && (kid.Space != space || !slices.Contains(kinds, kid.Name)) {
			return false
		}
	}
	return n.Space == space && n.Name == name
}

// attr answers an attribute's value; of one that is not there the empty text, which is told from none by has alone.
func attr(n xml.Node, name string) string {
	value, _ := xml.Attribute(n, "", name)
	return value
}

// has tells whether n has all these attributes.
func has(n xml.Node, names ...string) bool {
	for _, name := range names {
		if _, there := xml.Attribute(n, "", name); !there {
			return false
		}
	}
	return true
}
