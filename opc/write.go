package opc

import (
	"bytes"

	"quire/api"
	"quire/xml"
)

// What every types' file says by default, though it names each part as well.
const (
	relsExtension = "rels"
	relsType      = "application/vnd.openxmlformats-package.relationships+xml"
	xmlExtension  = "xml"
	xmlType       = "application/xml"
)

// Write answers the files of a package.
func Write(p Package) ([]api.File, api.Errno) {
	if e := Right(p); e != api.OK {
		return nil, e
	}
	leading := byFrom(p)
	var w writer
	w.document(typesFile, typesOf(p.Parts))
	w.relations("", leading[0])
	for i, part := range p.Parts {
		w.files = append(w.files, api.File{Name: part.Name, Data: bytes.Clone(part.Data)})
		w.relations(part.Name, leading[i+1])
	}
	if w.failed != api.OK {
		return nil, w.failed
	}
	return w.files, api.OK
}

// writer is files that are being written. It keeps the first error.
type writer struct {
	files  []api.File
	failed api.Errno
}

func (w *writer) document(name string, n xml.Node) {
	text, e := xml.Write(n)
	if w.failed == api.OK {
		w.failed = e
	}
	w.files = append(w.files, api.File{Name: name, Data: []byte(text)})
}

// relations writes the file of what leads from there, if something does.
func (w *writer) relations(from string, rels []Rel) {
	if len(rels) == 0 {
		return
	}
	n := element(relsSpace, relationshipsName)
	for _, r := range rels {
		n.Kids = append(n.Kids, element(relsSpace, relationshipName, idName, r.Id, typeName, r.Type, targetName, "/"+r.To))
	}
	w.document(RelsOf(from), n)
}

func typesOf(parts []Part) xml.Node {
	n := element(typesSpace, typesName)
	n.Kids = append(n.Kids,
		element(typesSpace, defaultName, extension, relsExtension, contentType, relsType),
		element(typesSpace, defaultName, extension, xmlExtension, contentType, xmlType))
	for _, part := range parts {
		n.Kids = append(n.Kids, element(typesSpace, overrideName, partNamed, "/"+part.Name, contentType, part.Type))
	}
	return n
}
