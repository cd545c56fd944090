package opc_test

import (
	"bytes"
	"fmt"
	"math/rand"
	"slices"
	"strings"
	"testing"

	"quire/api"
	"quire/opc"
	"quire/zip"
)

// rightIs asks for Right's answer; of Write for the same error, or for the files that the model writes.
func rightIs(t *testing.T, what string, p opc.Package, want api.Errno) {
	t.Helper()
	before := dump(p)
	if got := opc.Right(p); got != want {
		t.Errorf("%s: Right: %v, not %v", what, got, want)
	}
	if got := modelRight(p); got != want {
		t.Errorf("%s: the model of Right: %v, not %v", what, got, want)
	}
	l, e := opc.Write(p)
	if e != want || want != api.OK && len(l) > 0 {
		t.Errorf("%s: Write: %v and %d files, not %v", what, e, len(l), want)
	}
	if want == api.OK && !sameFiles(l, modelWrite(p)) {
		t.Errorf("%s: Write:\n%s, not\n%s", what, dumpFiles(l), dumpFiles(modelWrite(p)))
	}
	if want == api.OK {
		back(t, what, p)
	}
	if dump(p) != before {
		t.Errorf("%s: the package has been changed", what)
	}
}

// fault makes something of a package wrong.
type fault struct {
	what  string
	spoil func(p *opc.Package)
	want  api.Errno
}

func addPart(parts ...opc.Part) func(p *opc.Package) {
	return func(p *opc.Package) { p.Parts = append(slices.Clip(p.Parts), parts...) }
}

func addRel(rels ...opc.Rel) func(p *opc.Package) {
	return func(p *opc.Package) { p.Rels = append(slices.Clip(p.Rels), rels...) }
}

// faults are all that Right names, in its order: of each two groups the first one is told.
func faults() [][]fault {
	const to = "last.xml"
	return [][]fault{
		{
			{"a wrong name", addPart(part("x/../y")), api.ErrName},
			{"a name of the types' file", addPart(part("[content_types].xml")), api.ErrName},
			{"a name in _rels", addPart(part("xl/_Rels/x")), api.ErrName},
		}, {
			{"a name twice", addPart(part("media")), api.ErrTwice},
			{"a name twice, in other letters", addPart(part("XL/sheets/S1.xml")), api.ErrTwice},
			{"two new names that are like", addPart(part("new"), part("other"), part("NEW")), api.ErrTwice},
		}, {
			{"a part without a Type", addPart(opc.Part{Name: "new1"}), api.ErrArg},
			{"a Rel without a Type", addRel(opc.Rel{Id: "n1", To: to}), api.ErrArg},
			{"a Rel without an Id", addRel(opc.Rel{Type: "k", To: to}), api.ErrArg},
		}, {
			{"a part's Type that XML may not have", addPart(opc.Part{Name: "new2", Type: "a\x01"}), api.ErrText},
			{"a Rel's Type that XML may not have", addRel(opc.Rel{Id: "n2", Type: "\xff", To: to}), api.ErrText},
			{"a Rel's Id that XML may not have", addRel(opc.Rel{Id: "\uffff", Type: "k", To: to}), api.ErrText},
		}, {
			{"a From that is no part", addRel(opc.Rel{From: "none", Id: "n3", Type: "k", To: to}), api.ErrNone},
			{"a From in other letters", addRel(opc.Rel{From: "Last.xml", Id: "n3", Type: "k", To: to}), api.ErrNone},
			{"a To that is no part", addRel(opc.Rel{Id: "n4", Type: "k", To: "none"}), api.ErrNone},
			{"a To in other letters", addRel(opc.Rel{Id: "n4", Type: "k", To: "lasT.xml"}), api.ErrNone},
			{"an empty To", addRel(opc.Rel{From: to, Id: "n4", Type: "k"}), api.ErrNone},
			{"a To with a slash ahead", addRel(opc.Rel{From: to, Id: "n4", Type: "k", To: "/" + to}), api.ErrNone},
			{"a To of the types' file", addRel(opc.Rel{From: to, Id: "n4", Type: "k", To: typesFile}), api.ErrNone},
			{"a From of a Rels' file", addRel(opc.Rel{From: "_rels/.rels", Id: "n4", Type: "k", To: to}), api.ErrNone},
		}, {
			{"an Id of the package's own twice", addRel(opc.Rel{Id: "r3", Type: "k", To: "media"}), api.ErrTwice},
			{"an Id of a part's twice", addRel(opc.Rel{From: to, Id: "r9", Type: "k", To: to}), api.ErrTwice},
			{"two alike", addRel(opc.Rel{From: "media", Id: "n5", Type: "k", To: to}, opc.Rel{From: "media", Id: "n5", Type: "k", To: to}), api.ErrTwice},
		},
	}
}

// P801: each of its errors alone, and nothing wrong.
func TestRight(t *testing.T) {
	rightIs(t, "no part at all", opc.Package{}, api.OK)
	rightIs(t, "empty lists", opc.Package{Parts: []opc.Part{}, Rels: []opc.Rel{}}, api.OK)
	rightIs(t, "some package", somePackage(), api.OK)
	rightIs(t, "no part, but a Rel", opc.Package{Rels: []opc.Rel{{Id: "r", Type: "k", To: "a"}}}, api.ErrNone)
	rightIs(t, "no part, but a Rel that leads to the package", opc.Package{Rels: []opc.Rel{{Id: "r", Type: "k"}}}, api.ErrNone)
	for _, group := range faults() {
		for _, f := range group {
			p := somePackage()
			f.spoil(&p)
			rightIs(t, f.what, p, f.want)
			slices.Reverse(p.Parts)
			slices.Reverse(p.Rels)
			rightIs(t, f.what+", the other way round", p, f.want)
		}
	}
}

// P801: each two of its errors together, of which the one that is named first is told.
func TestRightOrder(t *testing.T) {
	for i, first := range faults() {
		for _, second := range faults()[i+1:] {
			for _, a := range first {
				for _, b := range second {
					p, q := somePackage(), somePackage()
					a.spoil(&p)
					b.spoil(&p)
					rightIs(t, a.what+", and "+b.what, p, a.want)
					b.spoil(&q)
					a.spoil(&q)
					rightIs(t, b.what+", then "+a.what, q, a.want)
				}
			}
		}
	}
}

// P801: two Rels with one Id are right, if their Froms are unlike, or the Id's letters.
func TestRightIds(t *testing.T) {
	parts := []opc.Part{part("a"), part("b")}
	rel := func(from, id string) opc.Rel { return opc.Rel{From: from, Id: id, Type: "k", To: "a"} }
	for _, c := range []struct {
		rels []opc.Rel
		want api.Errno
	}{
		{[]opc.Rel{rel("", "r"), rel("a", "r"), rel("b", "r")}, api.OK},
		{[]opc.Rel{rel("", "r"), rel("", "R"), rel("", "r ")}, api.OK},
		{[]opc.Rel{rel("b", "1"), rel("a", "1"), rel("b", "2"), rel("a", "2"), rel("", "2")}, api.OK},
		{[]opc.Rel{rel("b", "1"), rel("a", "1"), rel("b", "1")}, api.ErrTwice},
		{[]opc.Rel{rel("", "1"), rel("a", "1"), rel("b", "1"), rel("", "1")}, api.ErrTwice},
		{[]opc.Rel{rel("a", "1"), rel("a", "1")}, api.ErrTwice},
		{[]opc.Rel{rel("a", "b"), rel("", "ab"), rel("a", "ab"), rel("", "b")}, api.OK},
	} {
		rightIs(t, fmt.Sprint(c.rels), opc.Package{Parts: parts, Rels: c.rels}, c.want)
	}
}

// P801: texts at the edges of what XML may have.
func TestRightTexts(t *testing.T) {
	for s, want := range map[string]api.Errno{
		" ": api.OK, "\t": api.OK, "\n": api.OK, "\r": api.OK, "\u00f1": api.OK, "\ufffd": api.OK, "\U0010ffff": api.OK, "\x7f": api.OK, "\ud7ff\ue000": api.OK, "<&>\"'": api.OK, "\r\n\t ": api.OK, "]]>": api.OK,
		"\x00": api.ErrText, "\x08": api.ErrText, "\x0b": api.ErrText, "\x1f": api.ErrText, "\ufffe": api.ErrText, "a\uffff": api.ErrText, "\xc0\x80": api.ErrText, "\xed\xa0\x80": api.ErrText, "a\x80": api.ErrText, "\xf4\x90\x80\x80": api.ErrText,
	} {
		a := []opc.Part{{Name: "a", Type: s}}
		rightIs(t, fmt.Sprintf("Type %q", s), opc.Package{Parts: a}, want)
		rightIs(t, fmt.Sprintf("a Rel's Type %q", s), opc.Package{Parts: []opc.Part{part("a")}, Rels: []opc.Rel{{Id: "r", Type: s, To: "a"}}}, want)
		rightIs(t, fmt.Sprintf("Id %q", s), opc.Package{Parts: []opc.Part{part("a")}, Rels: []opc.Rel{{From: "a", Id: s, Type: "k", To: "a"}}}, want)
	}
	wild := "\x00\xff"
	rightIs(t, "a wrong From is no text", opc.Package{Parts: []opc.Part{part("a")}, Rels: []opc.Rel{{From: wild, Id: "r", Type: "k", To: "a"}}}, api.ErrNone)
	rightIs(t, "a wrong To is no text", opc.Package{Parts: []opc.Part{part("a")}, Rels: []opc.Rel{{Id: "r", Type: "k", To: wild}}}, api.ErrNone)
}

// anyPackage is one by chance, right or not.
func anyPackage(chance *rand.Rand) opc.Package {
	names := []string{"a", "b", "c.xml", "xl/a", "xl/b.bin", "xl/c/d.xml", "_rels/x/y"}
	pick := func(often int, l []string, odd ...string) string {
		if chance.Intn(often) == 0 {
			return odd[chance.Intn(len(odd))]
		}
		return l[chance.Intn(len(l))]
	}
	texts := []string{"t", "u", "<&>", "\"'", "\r\n\t", "\u4f60"}
	var p opc.Package
	for _, i := range chance.Perm(len(names))[:chance.Intn(len(names)+1)] {
		data := make([]byte, chance.Intn(4))
		chance.Read(data)
		p.Parts = append(p.Parts, opc.Part{Name: pick(40, names[i:i+1], "A", "XL/a", "", "xl/_rels/a", typesFile), Type: pick(60, texts, "", "\x01"), Data: data})
	}
	here := []string{"a"}
	for _, part := range p.Parts {
		here = append(here, part.Name)
	}
	for i := range chance.Intn(8) {
		p.Rels = append(p.Rels, opc.Rel{
			From: pick(4, here[len(here)/2:], ""), Id: pick(40, []string{fmt.Sprint("r", i), fmt.Sprint("r", i), fmt.Sprint("R", i/2)}, "", "\xff"),
			Type: pick(80, texts, "", "\x0b"), To: pick(80, here[len(here)-1:], "none", "", "A", here[0]),
		})
	}
	return p
}

// P801, P802, P805: packages by chance, held against the models.
func TestWriteAsTheModel(t *testing.T) {
	chance := rand.New(rand.NewSource(801))
	met := map[api.Errno]int{}
	for range 20000 {
		p := anyPackage(chance)
		want := modelRight(p)
		rightIs(t, "by chance", p, want)
		met[want]++
	}
	for _, e := range []api.Errno{api.OK, api.ErrName, api.ErrTwice, api.ErrArg, api.ErrText, api.ErrNone} {
		if met[e] < 100 {
			t.Errorf("%d packages had error %d", met[e], e)
		}
	}
}

// P802: the files, sign by sign.
func TestWrite(t *testing.T) {
	const (
		typesHead = `<Types xmlns="http://schemas.openxmlformats.org/package/2006/content-types">` +
			`<Default Extension="rels" ContentType="application/vnd.openxmlformats-package.relationships+xml"/>` +
			`<Default Extension="xml" ContentType="application/xml"/>`
		relsHead = `<Relationships xmlns="http://schemas.openxmlformats.org/package/2006/relationships">`
		relsTail = `</Relationships>`
	)
	a, b := opc.Part{Name: "xl/a.xml", Type: "t<1>", Data: []byte("A")}, opc.Part{Name: "b&'", Type: "u\t", Data: []byte{0}}
	types := file(typesFile, typesHead+`<Override PartName="/xl/a.xml" ContentType="t&lt;1&gt;"/><Override PartName="/b&amp;'" ContentType="u&#9;"/></Types>`)
	ownRel, otherRel := opc.Rel{Id: "r\"1", Type: "k&", To: "b&'"}, opc.Rel{Id: "r2", Type: "l", To: "xl/a.xml"}
	aRel, bRel := opc.Rel{From: "xl/a.xml", Id: "r2", Type: "m\r\n", To: "xl/a.xml"}, opc.Rel{From: "b&'", Id: "\u00f1", Type: "n", To: "xl/a.xml"}
	own := file("_rels/.rels", relsHead+`<Relationship Id="r&quot;1" Type="k&amp;" Target="/b&amp;'"/><Relationship Id="r2" Type="l" Target="/xl/a.xml"/>`+relsTail)
	ofA := file("xl/_rels/a.xml.rels", relsHead+`<Relationship Id="r2" Type="m&#13;&#10;" Target="/xl/a.xml"/>`+relsTail)
	ofB := file("_rels/b&'.rels", relsHead+"<Relationship Id=\"\u00f1\" Type=\"n\" Target=\"/xl/a.xml\"/>"+relsTail)
	fileA, fileB := file("xl/a.xml", "A"), file("b&'", "\x00")
	parts := []opc.Part{a, b}
	for _, c := range []struct {
		what  string
		parts []opc.Part
		rels  []opc.Rel
		want  []api.File
	}{
		{"nothing", nil, nil, []api.File{file(typesFile, typesHead+`</Types>`)}},
		{"no Rels", parts, nil, []api.File{types, fileA, fileB}},
		{"its own alone", parts, []opc.Rel{ownRel, otherRel}, []api.File{types, own, fileA, fileB}},
		{"a part's alone", parts, []opc.Rel{aRel}, []api.File{types, fileA, ofA, fileB}},
		{"the last part's alone", parts, []opc.Rel{bRel}, []api.File{types, fileA, fileB, ofB}},
		{"both", parts, []opc.Rel{bRel, ownRel, aRel, otherRel}, []api.File{types, own, fileA, ofA, fileB, ofB}},
	} {
		p := opc.Package{Parts: c.parts, Rels: c.rels}
		l, e := opc.Write(p)
		if e != api.OK || !sameFiles(l, c.want) {
			t.Errorf("%s: Write: %v\n%s, not\n%s", c.what, e, dumpFiles(l), dumpFiles(c.want))
		}
		rightIs(t, c.what, p, api.OK)
	}
}

// filled is a package whose types' file, or whose file of what leads, has so many bytes.
func filled(size int, inRels bool) opc.Package {
	p := opc.Package{Parts: []opc.Part{part("a")}, Rels: []opc.Rel{{Id: "r", Type: "k", To: "a"}}}
	at, grow := 0, &p.Parts[0].Type
	if inRels {
		at, grow = 1, &p.Rels[0].Id
	}
	*grow += strings.Repeat("x", size-len(modelWrite(p)[at].Data))
	return p
}

// P802: xml.Write's error.
func TestWriteBig(t *testing.T) {
	for _, inRels := range []bool{false, true} {
		rightIs(t, "as big as a part may be", filled(api.MaxPart, inRels), api.OK)
		p := filled(api.MaxPart+1, inRels)
		if e := opc.Right(p); e != api.OK {
			t.Errorf("Right of a package whose file would be too big: %v", e)
		}
		if l, e := opc.Write(p); e != api.ErrBig || len(l) > 0 {
			t.Errorf("Write of a file that would be too big: %v, %d files", e, len(l))
		}
		p.Parts = append(p.Parts, part(""))
		if _, e := opc.Write(p); e != api.ErrName {
			t.Errorf("Write of a wrong name, and of a file that would be too big: %v", e)
		}
	}
	p := filled(api.MaxPart+1, true)
	p.Parts = append(p.Parts, part("b"))
	p.Rels[0].From = "b"
	if l, e := opc.Write(p); e != api.ErrBig || len(l) > 0 {
		t.Errorf("Write of a last file that would be too big: %v, %d files", e, len(l))
	}
	big := opc.Package{Parts: []opc.Part{{Name: "a", Type: "t", Data: make([]byte, api.MaxPart+1)}}}
	if l, e := opc.Write(big); e != api.OK || len(l) != 2 || len(l[1].Data) != api.MaxPart+1 {
		t.Errorf("Write of a part's bytes, however many: %v", e)
	}
	back(t, "a part's bytes, however many", big)
}

// crowd is a package of so many parts, with a Rel to each of them.
func crowd(parts int) opc.Package {
	var p opc.Package
	for i := range parts {
		name := fmt.Sprintf("p%06d.xml", i)
		p.Parts = append(p.Parts, part(name))
		p.Rels = append(p.Rels, opc.Rel{From: p.Parts[i/2].Name, Id: fmt.Sprint("r", i), Type: "k", To: name})
	}
	return p
}

// P801, P802, P805: packages of many parts.
func TestCrowd(t *testing.T) {
	back(t, "many parts", crowd(4000))
	p := crowd(api.MaxXmlNodes)
	if e := opc.Right(p); e != api.OK {
		t.Errorf("Right of more parts than a file has elements: %v", e)
	}
	if l, e := opc.Write(p); e != api.ErrBig || len(l) > 0 {
		t.Errorf("Write of more parts than a file has elements: %v", e)
	}
	p.Rels = append(p.Rels, p.Rels[len(p.Rels)-1])
	if e := opc.Right(p); e != api.ErrTwice {
		t.Errorf("Right of the last Rel twice: %v", e)
	}
	p.Rels[0].To = "none"
	if e := opc.Right(p); e != api.ErrNone {
		t.Errorf("Right of a Rel that leads nowhere: %v", e)
	}
	p.Parts = append(p.Parts, part("P000000.XML"))
	if e := opc.Right(p); e != api.ErrTwice {
		t.Errorf("Right of the first part twice: %v", e)
	}
}

// P805: back through an archive.
func TestBackThroughZip(t *testing.T) {
	p := somePackage()
	l, _ := opc.Write(p)
	b, e := zip.Write(l, zip.Deflated)
	if e != api.OK {
		t.Fatal(e)
	}
	l, e = zip.Read(b, api.MaxFile)
	if e != api.OK {
		t.Fatal(e)
	}
	want := somePackage()
	want.Rels = []opc.Rel{
		{From: "", Id: "r1", Type: "book", To: "xl/workbook.xml"},
		{From: "", Id: "r2", Type: "last", To: "last.xml"},
		{From: "", Id: "r3", Type: "book", To: "last.xml"},
		{From: "xl/workbook.xml", Id: "r1", Type: "sheet", To: "xl/Sheets/s1.xml"},
		{From: "xl/workbook.xml", Id: "r2", Type: "sheet", To: "xl/Sheets/s2.xml"},
		{From: "xl/workbook.xml", Id: "R1", Type: "image", To: "media"},
		{From: "xl/Sheets/s2.xml", Id: "r1", Type: "back", To: "xl/workbook.xml"},
		{From: "last.xml", Id: "r9", Type: "image", To: "media"},
		{From: "last.xml", Id: "r1", Type: "self", To: "last.xml"},
	}
	if q, e := opc.Read(l); e != api.OK || dump(q) != dump(want) {
		t.Errorf("Read of Write, through an archive: %v\n%s", e, dump(q))
	}
}

// roomy is b with something in its spare room.
func roomy(b []byte) []byte { return append(bytes.Clone(b), "spare"...)[: len(b) : len(b)+5] }

// scribble writes into all of a list of bytes, its spare room too.
func scribble(b []byte) {
	for i := range b[:cap(b)] {
		b[:cap(b)][i] = '!'
	}
}

// Rule 4: Write shares nothing, and changes nothing.
func TestWriteSharesNothing(t *testing.T) {
	p := somePackage()
	for i := range p.Parts {
		p.Parts[i].Data = roomy(p.Parts[i].Data)
	}
	p.Parts = append(p.Parts, part("spare"))[:len(p.Parts)]
	p.Rels = append(p.Rels, opc.Rel{Id: "spare"})[:len(p.Rels)]
	first, _ := opc.Write(p)
	second, _ := opc.Write(p)
	for _, f := range first {
		scribble(f.Data)
	}
	clear(first[:cap(first)])
	for _, part := range p.Parts {
		if string(part.Data[len(part.Data):cap(part.Data)]) != "spare" {
			t.Errorf("the spare room of %q has been changed", part.Name)
		}
	}
	if p.Parts[:6][5].Name != "spare" || p.Rels[:10][9].Id != "spare" {
		t.Errorf("the spare room of a list has been changed")
	}
	if dump(p) != dump(somePackage()) {
		t.Errorf("what Write hands out is a part of what it was given:\n%s", dump(p))
	}
	for _, part := range p.Parts {
		scribble(part.Data)
	}
	if !sameFiles(second, modelWrite(somePackage())) {
		t.Errorf("Write keeps what it was given, or two answers share bytes:\n%s", dumpFiles(second))
	}
}
