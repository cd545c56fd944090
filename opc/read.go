package opc

import (
	"bytes"
	"slices"
	"strings"

	"quire/api"
	"quire/utf"
	"quire/xml"
)

// Read answers the package that the files are of.
func Read(l []api.File) (Package, api.Errno) {
	at := slices.IndexFunc(l, isTypesFile)
	if at < 0 {
		return Package{}, api.ErrPart
	}
	if firstTwice(lowFileName, l) >= 0 {
		return Package{}, api.ErrTwice
	}
	types, e := readTypes(l[at].Data)
	if e != api.OK {
		return Package{}, e
	}
	r := reader{types: types, parts: partsAmong(l)}
	for i, f := range l {
		if i == at {
			continue
		}
		if e := r.file(f); e != api.OK {
			return Package{}, e
		}
	}
	return r.told, api.OK
}

func isTypesFile(f api.File) bool { return f.Name == typesFile }

func lowFileName(f api.File) string { return utf.Lower(f.Name) }

// partsAmong answers the numbers of the files that have a part's right name. A file may lead to one that stands behind it.
func partsAmong(l []api.File) map[string]int {
	numbers := map[string]int{}
	for i, f := range l {
		if partName(f.Name) {
			numbers[f.Name] = i
		}
	}
	return numbers
}

// typing is what the types' file says: the first Override for each name, with a slash ahead, and the first Default for each extension, all in small letters.
type typing struct{ overrides, defaults map[string]xml.Node }

func readTypes(data []byte) (typing, api.Errno) {
	n, e := xml.Parse(string(data))
	if e != api.OK {
		return typing{}, e
	}
	if !madeOf(n, typesSpace, typesName, defaultName, overrideName) {
		return typing{}, api.ErrPart
	}
	for kid := range elements(n, defaultName) {
		if !has(kid, extension, contentType) {
			return typing{}, api.ErrPart
		}
	}
	for kid := range elements(n, overrideName) {
		if !has(kid, contentType) || !strings.HasPrefix(attr(kid, partNamed), "/") {
			return typing{}, api.ErrPart
		}
	}
	return typing{firsts(n, overrideName, partNamed), firsts(n, defaultName, extension)}, api.OK
}

// firsts answers n's kids of a kind by an attribute of theirs, in small letters: of those that are like in it the first.
func firsts(n xml.Node, kind, by string) map[string]xml.Node {
	first := map[string]xml.Node{}
	for kid := range elements(n, kind) {
		key := utf.Lower(attr(kid, by))
		if _, there := first[key]; !there {
			first[key] = kid
		}
	}
	return first
}

// of answers the type of the part of that name: the empty text, if it has none.
func (t typing) of(name string) string {
	low := utf.Lower(name)
	if kid, told := t.overrides["/"+low]; told {
		return attr(kid, contentType)
	}
	_, last := cut(low)
	point := strings.LastIndexByte(last, '.')
	if point < 0 {
		return ""
	}
	return attr(t.defaults[last[point+1:]], contentType)
}

// reader is a package that is being read.
type reader struct {
	types typing
	parts map[string]int
	told  Package
}

func (r *reader) file(f api.File) api.Errno {
	if inRels(f.Name) {
		return r.relations(f)
	}
	return r.part(f)
}

func (r *reader) part(f api.File) api.Errno {
	if !partName(f.Name) {
		return api.ErrName
	}
	kind := r.types.of(f.Name)
	if kind == "" {
		return api.ErrPart
	}
	r.told.Parts = append(r.told.Parts, Part{f.Name, kind, bytes.Clone(f.Data)})
	return api.OK
}

// relations reads a file of what leads. Its elements' kinds are asked ahead of what the first of them has.
func (r *reader) relations(f api.File) api.Errno {
	from, ok := ownerOf(f.Name)
	if !ok || from != "" && !r.isPart(from) {
		return api.ErrPart
	}
	n, e := xml.Parse(string(f.Data))
	if e != api.OK {
		return e
	}
	if !madeOf(n, relsSpace, relationshipsName, relationshipName) {
		return api.ErrPart
	}
	all := slices.Collect(elements(n, relationshipName))
	twice := firstTwice(nodeId, all)
	for i, kid := range all {
		rel, e := r.relation(from, kid)
		if e != api.OK {
			return e
		}
		if i == twice {
			return api.ErrTwice
		}
		r.told.Rels = append(r.told.Rels, rel)
	}
	return api.OK
}

func (r *reader) isPart(name string) bool {
	_, there := r.parts[name]
	return there
}

func nodeId(n xml.Node) string { return attr(n, idName) }

// relation answers the Rel that a Relationship tells. An attribute that is missing is as bad as an empty one, but for the mode.
func (r *reader) relation(from string, n xml.Node) (Rel, api.Errno) {
	rel := Rel{From: from, Id: attr(n, idName), Type: attr(n, typeName)}
	if has(n, targetMode) && attr(n, targetMode) != internal || rel.Id == "" || rel.Type == "" {
		return Rel{}, api.ErrPart
	}
	target := attr(n, targetName)
	to, ok := Resolve(from, target)
	if target == "" || !ok {
		return Rel{}, api.ErrPart
	}
	if !r.isPart(to) {
		return Rel{}, api.ErrNone
	}
	rel.To = to
	return rel, api.OK
}
