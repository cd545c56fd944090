package opc_test

import (
	"bytes"
	"fmt"
	"regexp"
	"slices"
	"strings"
	"testing"

	"quire/api"
	"quire/opc"
	"quire/utf"
	"quire/xml"
)

const (
	typesFile = "[Content_Types].xml"
	typesNs   = "http://schemas.openxmlformats.org/package/2006/content-types"
	relsNs    = "http://schemas.openxmlformats.org/package/2006/relationships"
)

// dump is all that a package has, as a text: what the tests hold against each other.
func dump(p opc.Package) string {
	var out strings.Builder
	for _, part := range p.Parts {
		fmt.Fprintf(&out, "%q is a %q: %q\n", part.Name, part.Type, part.Data)
	}
	for _, r := range p.Rels {
		fmt.Fprintf(&out, "%q %q %q %q\n", r.From, r.Id, r.Type, r.To)
	}
	return out.String()
}

// dumpFiles is dump of files.
func dumpFiles(l []api.File) string {
	var out strings.Builder
	for _, f := range l {
		fmt.Fprintf(&out, "%q: %q\n", f.Name, f.Data)
	}
	return out.String()
}

var (
	zipName   = regexp.MustCompile(`^[ -9;-\[\]-~]{1,255}$`)
	strayPart = regexp.MustCompile(`(^|/)(\.|\.\.)?(/|$)`)
	relsName  = regexp.MustCompile(`(^|/)_[rR][eE][lL][sS]/[^/]*$`)
	typesName = regexp.MustCompile(`^\[[cC][oO][nN][tT][eE][nN][tT]_[tT][yY][pP][eE][sS]\]\.[xX][mM][lL]$`)
	relsFile  = regexp.MustCompile(`^((?:[^/]*/)*)_rels/([^/]*)\.rels$`)
	extension = regexp.MustCompile(`\.([^./]*)$`)
)

func modelZipRight(name string) bool {
	return zipName.MatchString(name) && !strayPart.MatchString(name)
}

func modelPartName(name string) bool {
	return modelZipRight(name) && !typesName.MatchString(name) && !relsName.MatchString(name)
}

// lowered turns letters alone, one by one.
var lowered = strings.NewReplacer("A", "a", "B", "b", "C", "c", "D", "d", "E", "e", "F", "f", "G", "g", "H", "h", "I", "i", "J", "j", "K", "k", "L", "l", "M", "m", "N", "n", "O", "o", "P", "p", "Q", "q", "R", "r", "S", "s", "T", "t", "U", "u", "V", "v", "W", "w", "X", "x", "Y", "y", "Z", "z")

func modelLike(a, b string) bool {
	return len(a) == len(b) && lowered.Replace(a) == lowered.Replace(b)
}

// modelResolve goes from the right to the left, and counts what is still to be dropped.
func modelResolve(from, target string) (string, bool) {
	name := ""
	if strings.HasPrefix(target, "/") {
		name = target[1:]
	} else {
		parts := strings.Split(target, "/")
		if at := strings.LastIndex(from, "/"); at >= 0 {
			parts = append(strings.Split(from[:at], "/"), parts...)
		}
		drop := 0
		var kept []string
		for _, part := range slices.Backward(parts) {
			switch {
			case part == ".":
			case part == "..":
				drop++
			case drop > 0:
				drop--
			default:
				kept = append([]string{part}, kept...)
			}
		}
		if drop > 0 {
			return "", false
		}
		name = strings.Join(kept, "/")
	}
	if !modelZipRight(name) {
		return "", false
	}
	return name, true
}

// modelRight is P801 once more, pair by pair.
func modelRight(p opc.Package) api.Errno {
	names := map[string]int{}
	for _, part := range p.Parts {
		if !modelPartName(part.Name) {
			return api.ErrName
		}
		names[part.Name]++
	}
	for i, a := range p.Parts {
		for _, b := range p.Parts[i+1:] {
			if modelLike(a.Name, b.Name) {
				return api.ErrTwice
			}
		}
	}
	var texts []string
	for _, part := range p.Parts {
		texts = append(texts, part.Type)
	}
	for _, r := range p.Rels {
		texts = append(texts, r.Type, r.Id)
	}
	if slices.Contains(texts, "") {
		return api.ErrArg
	}
	for _, s := range texts {
		if utf.Xml(s) != api.OK {
			return api.ErrText
		}
	}
	for _, r := range p.Rels {
		if r.From != "" && names[r.From] == 0 || names[r.To] == 0 {
			return api.ErrNone
		}
	}
	for i, a := range p.Rels {
		for _, b := range p.Rels[i+1:] {
			if a.From == b.From && a.Id == b.Id {
				return api.ErrTwice
			}
		}
	}
	return api.OK
}

// signs are those that xml.Write writes as references in values.
var signs = strings.NewReplacer("&", "&amp;", "<", "&lt;", ">", "&gt;", `"`, "&quot;", "\t", "&#9;", "\n", "&#10;", "\r", "&#13;")

// quoted is a value as xml.Write writes it.
func quoted(s string) string { return `"` + signs.Replace(s) + `"` }

// modelWrite is P802 once more: the files of a right package, if none is too big.
func modelWrite(p opc.Package) []api.File {
	types := `<Types xmlns="` + typesNs + `"><Default Extension="rels" ContentType="application/vnd.openxmlformats-package.relationships+xml"/><Default Extension="xml" ContentType="application/xml"/>`
	for _, part := range p.Parts {
		types += `<Override PartName=` + quoted("/"+part.Name) + ` ContentType=` + quoted(part.Type) + `/>`
	}
	l := []api.File{file(typesFile, types+`</Types>`)}
	leading := func(from, name string) {
		kids := ""
		for _, r := range p.Rels {
			if r.From == from {
				kids += `<Relationship Id=` + quoted(r.Id) + ` Type=` + quoted(r.Type) + ` Target=` + quoted("/"+r.To) + `/>`
			}
		}
		if kids != "" {
			l = append(l, file(name, `<Relationships xmlns="`+relsNs+`">`+kids+`</Relationships>`))
		}
	}
	leading("", "_rels/.rels")
	for _, part := range p.Parts {
		l = append(l, api.File{Name: part.Name, Data: part.Data})
		at := strings.LastIndex(part.Name, "/") + 1
		leading(part.Name, part.Name[:at]+"_rels/"+part.Name[at:]+".rels")
	}
	return l
}

// ordered is a package with its Rels by the order of their Froms.
func ordered(p opc.Package) opc.Package {
	var rels []opc.Rel
	for _, from := range append([]opc.Part{{}}, p.Parts...) {
		for _, r := range p.Rels {
			if r.From == from.Name {
				rels = append(rels, r)
			}
		}
	}
	return opc.Package{Parts: p.Parts, Rels: rels}
}

// modelRead is P803 once more, with the errors thrown.
func modelRead(l []api.File) (p opc.Package, e api.Errno) {
	defer func() {
		if r := recover(); r != nil {
			p, e = opc.Package{}, r.(api.Errno)
		}
	}()
	m := model{files: l}
	at := slices.IndexFunc(l, func(f api.File) bool { return f.Name == typesFile })
	need(at >= 0, api.ErrPart)
	for i, a := range l {
		for _, b := range l[i+1:] {
			need(!modelLike(a.Name, b.Name), api.ErrTwice)
		}
	}
	m.readTypes(l[at])
	for i, f := range l {
		switch {
		case i == at:
		case relsName.MatchString(f.Name):
			m.readRels(f)
		default:
			need(modelPartName(f.Name), api.ErrName)
			kind := m.typeOf(f.Name)
			need(kind != "", api.ErrPart)
			m.out.Parts = append(m.out.Parts, opc.Part{Name: f.Name, Type: kind, Data: f.Data})
		}
	}
	return m.out, api.OK
}

func need(right bool, e api.Errno) {
	if !right {
		panic(e)
	}
}

type model struct {
	files []api.File
	types []xml.Node
	out   opc.Package
}

// kidsOf parses a file, and asks for its root and its kids' names.
func kidsOf(f api.File, space, root, kinds string) []xml.Node {
	n, e := xml.Parse(string(f.Data))
	need(e == api.OK, e)
	need(n.Space == space && n.Name == root, api.ErrPart)
	var kids []xml.Node
	for _, kid := range n.Kids {
		if kid.Name == "" {
			continue
		}
		need(kid.Space == space && strings.Contains(kinds, " "+kid.Name+" "), api.ErrPart)
		kids = append(kids, kid)
	}
	return kids
}

func attr(n xml.Node, name string) (value string, there bool) {
	for _, a := range n.Attrs {
		if a.Space == "" && a.Name == name {
			return a.Value, true
		}
	}
	return "", false
}

func (m *model) readTypes(f api.File) {
	m.types = kidsOf(f, typesNs, "Types", " Default Override ")
	for _, n := range m.types {
		_, there := attr(n, "ContentType")
		need(there, api.ErrPart)
		if n.Name == "Default" {
			_, there = attr(n, "Extension")
			need(there, api.ErrPart)
			continue
		}
		name, _ := attr(n, "PartName")
		need(strings.HasPrefix(name, "/"), api.ErrPart)
	}
}

func (m *model) typeOf(name string) string {
	for _, n := range m.types {
		if told, _ := attr(n, "PartName"); n.Name == "Override" && modelLike(told, "/"+name) {
			kind, _ := attr(n, "ContentType")
			return kind
		}
	}
	end := extension.FindStringSubmatch(name)
	for _, n := range m.types {
		if told, _ := attr(n, "Extension"); n.Name == "Default" && end != nil && modelLike(told, end[1]) {
			kind, _ := attr(n, "ContentType")
			return kind
		}
	}
	return ""
}

func (m *model) isPart(name string) bool {
	return modelPartName(name) && slices.ContainsFunc(m.files, func(f api.File) bool { return f.Name == name })
}

func (m *model) readRels(f api.File) {
	found := relsFile.FindStringSubmatch(f.Name)
	need(found != nil, api.ErrPart)
	from := found[1] + found[2]
	need(f.Name == "_rels/.rels" || m.isPart(from), api.ErrPart)
	ids := map[string]int{}
	for _, n := range kidsOf(f, relsNs, "Relationships", " Relationship ") {
		mode, told := attr(n, "TargetMode")
		need(!told || mode == "Internal", api.ErrPart)
		id, _ := attr(n, "Id")
		kind, _ := attr(n, "Type")
		target, _ := attr(n, "Target")
		to, ok := modelResolve(from, target)
		need(id != "" && kind != "" && target != "" && ok, api.ErrPart)
		need(m.isPart(to), api.ErrNone)
		ids[id]++
		need(ids[id] == 1, api.ErrTwice)
		m.out.Rels = append(m.out.Rels, opc.Rel{From: from, Id: id, Type: kind, To: to})
	}
}

func file(name, data string) api.File { return api.File{Name: name, Data: []byte(data)} }

// read asks Read, holds it against the model, and asks that what it tells is right, and is written and read again as it was.
func read(t *testing.T, what string, l []api.File) (opc.Package, api.Errno) {
	t.Helper()
	before := dumpFiles(l)
	p, e := opc.Read(l)
	if dumpFiles(l) != before {
		t.Errorf("%s: Read has changed what it was given", what)
	}
	want, wantE := modelRead(l)
	if e != wantE || dump(p) != dump(want) {
		t.Errorf("%s: Read of\n%.3000s: %v\n%.3000s, not %v\n%.3000s", what, before, e, dump(p), wantE, dump(want))
	}
	if e != api.OK {
		return p, e
	}
	if e := opc.Right(p); e != api.OK {
		t.Errorf("%s: Right of what Read tells: %v", what, e)
	}
	back(t, what, p)
	return p, e
}

// back asks P805 of a package.
func back(t *testing.T, what string, p opc.Package) {
	t.Helper()
	l, e := opc.Write(p)
	if e != api.OK {
		t.Errorf("%s: Write: %v", what, e)
		return
	}
	again, e := opc.Read(l)
	if e != api.OK || dump(again) != dump(ordered(p)) {
		t.Errorf("%s: Read of Write: %v\n%.3000s, not\n%.3000s", what, e, dump(again), dump(ordered(p)))
	}
}

// wantError asks for an error, and for nothing beside it.
func wantError(t *testing.T, what string, l []api.File, want api.Errno) {
	t.Helper()
	p, e := read(t, what, l)
	if e != want || len(p.Parts) > 0 || len(p.Rels) > 0 {
		t.Errorf("%s: Read: %v, not %v, with %d parts and %d Rels", what, e, want, len(p.Parts), len(p.Rels))
	}
}

// wantPackage asks for a package.
func wantPackage(t *testing.T, what string, l []api.File, want opc.Package) {
	t.Helper()
	if p, e := read(t, what, l); e != api.OK || dump(p) != dump(want) {
		t.Errorf("%s: Read: %v\n%s, not\n%s", what, e, dump(p), dump(want))
	}
}

// sameFiles tells whether files are the same, in their order.
func sameFiles(a, b []api.File) bool {
	return slices.EqualFunc(a, b, func(x, y api.File) bool { return x.Name == y.Name && bytes.Equal(x.Data, y.Data) })
}
