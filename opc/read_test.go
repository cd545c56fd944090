package opc_test

import (
	"fmt"
	"math/rand"
	"slices"
	"strings"
	"testing"

	"quire/api"
	"quire/opc"
)

// typed is the types' file with these elements.
func typed(kids ...string) api.File {
	return file(typesFile, `<Types xmlns="`+typesNs+`">`+strings.Join(kids, "")+`</Types>`)
}

// led is a file of what leads, with these elements.
func led(name string, kids ...string) api.File {
	return file(name, `<Relationships xmlns="`+relsNs+`">`+strings.Join(kids, "")+`</Relationships>`)
}

func byDefault(end, kind string) string {
	return fmt.Sprintf("<Default Extension=%s ContentType=%s/>", quoted(end), quoted(kind))
}

func override(name, kind string) string {
	return fmt.Sprintf("<Override PartName=%s ContentType=%s/>", quoted(name), quoted(kind))
}

func rel(id, kind, target string) string {
	return fmt.Sprintf("<Relationship Id=%s Type=%s Target=%s/>", quoted(id), quoted(kind), quoted(target))
}

// plain is a types' file by which all that ends with .xml is an x.
func plain() api.File { return typed(byDefault("xml", "x")) }

// TestReadWithoutTypes: P803, ErrPart: there is no types' file.
func TestReadWithoutTypes(t *testing.T) {
	for what, l := range map[string][]api.File{
		"nil":                                  nil,
		"no file at all":                       {},
		"another file":                         {file("a.xml", "")},
		"files of what leads alone":            {led("_rels/.rels")},
		"in small letters":                     {file("[content_types].xml", string(plain().Data))},
		"in great letters, beside a part":      {file("a.xml", ""), file("[CONTENT_TYPES].XML", string(plain().Data))},
		"in a folder":                          {file("xl/"+typesFile, string(plain().Data))},
		"with a slash ahead":                   {file("/"+typesFile, string(plain().Data))},
		"with more behind":                     {file(typesFile+" ", string(plain().Data))},
		"and two that are like":                {file("a.xml", ""), file("A.xml", "")},
		"and two that are like, of that name":  {file("[content_types].xml", ""), file("[Content_types].xml", "")},
		"and a name that is not right":         {file("a\\", "")},
		"and a file of what leads of no part":  {led("_rels/a.rels")},
		"and a file of what leads, not of XML": {file("_rels/.rels", "<")},
	} {
		wantError(t, what, l, api.ErrPart)
	}
}

// TestReadTwice: P803, ErrTwice: two files' names are like, ahead of all but the types' file that is missing.
func TestReadTwice(t *testing.T) {
	for _, names := range [][]string{
		{"a.xml", "a.xml"}, {"a.xml", "A.XML"}, {"xl/a.xml", "b.xml", "XL/a.xml"}, {typesFile}, {"[content_types].xml"}, {"_rels/.rels", "_RELS/.rels"}, {"_rels/.rels", "_rels/.rels"}, {"b.xml", "c.xml", "d.xml", "C.xml"}, {"", ""}, {"a\\", "A\\"}, {"\xffZ", "\xffz"}, {"\u00f1a", "\u00f1A"},
	} {
		for _, types := range []api.File{plain(), typed(), typed("<a/>"), file(typesFile, "<")} {
			l := []api.File{types}
			for _, name := range names {
				l = append(l, file(name, "<"))
			}
			wantError(t, fmt.Sprint(names), l, api.ErrTwice)
			slices.Reverse(l)
			wantError(t, fmt.Sprint(names), l, api.ErrTwice)
		}
	}
	// Names that other ways to fold letters would take for like ones, and whose own error comes.
	for _, names := range [][2]string{{"k.xml", "\u212a.xml"}, {"s.xml", "\u017f.xml"}, {"\u00f1.xml", "\u00d1.xml"}, {"a[.xml", "a{.xml"}, {"a@.xml", "a`.xml"}, {"a\xff.xml", "a\xfe.xml"}} {
		want := api.ErrName
		if modelZipRight(names[1]) {
			want = api.OK
		}
		if _, e := read(t, fmt.Sprint(names), []api.File{plain(), file(names[0], ""), file(names[1], "")}); e != want {
			t.Errorf("Read of %q: %v, not %v", names, e, want)
		}
	}
}

// deepXml is elements within one another, more than XML's layer takes.
func deepXml() string { return strings.Repeat("<a>", api.MaxXmlDeep+1) }

// notXml are texts with xml.Parse's errors of them.
func notXml() map[string]api.Errno {
	return map[string]api.Errno{
		"": api.ErrXml, "<": api.ErrXml, "<Types>": api.ErrXml, "Types": api.ErrXml, "<a><b></a>": api.ErrXml, "<p:Types/>": api.ErrXml, "<a/><a/>": api.ErrXml,
		"<a>\x01</a>": api.ErrText, "\xff": api.ErrText, deepXml(): api.ErrDeep, strings.Repeat(" ", api.MaxPart+1): api.ErrBig,
	}
}

// TestReadTypesXml: P803, xml.Parse's error of the types' file, ahead of other files' errors.
func TestReadTypesXml(t *testing.T) {
	for text, want := range notXml() {
		for _, others := range [][]api.File{nil, {file("a.xml", "")}, {file("a\\", "")}, {led("_rels/a.rels")}, {file("_rels/.rels", "\x01")}} {
			types := file(typesFile, text)
			wantError(t, fmt.Sprintf("types %.50q", text), append([]api.File{types}, others...), want)
			wantError(t, fmt.Sprintf("types %.50q behind", text), append(slices.Clip(others), types), want)
		}
	}
}

// TestReadTypesShape: P803, ErrPart: the types' file is not as the words say.
func TestReadTypesShape(t *testing.T) {
	whole := func(text string) api.File { return file(typesFile, text) }
	const p = ` xmlns:p="` + typesNs + `"`
	for _, types := range []api.File{
		whole(`<Types/>`), whole(`<Types xmlns="` + relsNs + `"/>`), whole(`<Types xmlns="` + typesNs + `/"/>`), whole(`<types xmlns="` + typesNs + `"/>`), whole(`<Relationships xmlns="` + typesNs + `"/>`), whole(`<Default xmlns="` + typesNs + `" Extension="xml" ContentType="x"/>`), whole(string(led("").Data)),
		typed(`<Other/>`), typed(`<default Extension="xml" ContentType="x"/>`), typed(`<Types/>`), typed(byDefault("xml", "x"), `<Other/>`), typed(`<Override xmlns="u" PartName="/a" ContentType="x"/>`), typed(`<Default xmlns="" Extension="xml" ContentType="x"/>`), typed(`<Default xmlns="` + relsNs + `" Extension="xml" ContentType="x"/>`), typed(`<Relationship Extension="xml" ContentType="x"/>`),
		typed(`<Default/>`), typed(`<Override/>`), typed(`<Default Extension="xml"/>`), typed(`<Default ContentType="x"/>`), typed(`<Override PartName="/a.xml"/>`), typed(`<Override ContentType="x"/>`), typed(`<Default PartName="/a.xml" ContentType="x"/>`), typed(`<Override Extension="xml" ContentType="x"/>`), typed(`<Default extension="xml" ContentType="x"/>`), typed(`<Default Extension="xml" contentType="x"/>`), typed(`<Override partName="/a.xml" ContentType="x"/>`),
		typed(`<Default` + p + ` p:Extension="xml" ContentType="x"/>`), typed(`<Default` + p + ` Extension="xml" p:ContentType="x"/>`), typed(`<Override` + p + ` p:PartName="/a" ContentType="x"/>`), typed(`<Override` + p + ` PartName="/a" p:ContentType="x"/>`),
		typed(override("a.xml", "x")), typed(override("", "x")), typed(override("xl/a.xml", "x")), typed(override(" /a.xml", "x")), typed(override("\\a.xml", "x")), typed(byDefault("xml", "x"), override("/a.xml", "x"), override("b", "x")), typed(byDefault("xml", "x"), byDefault("b", "x"), `<Default Extension="c"/>`),
	} {
		text := string(types.Data)
		if !strings.Contains(text, `"xml"`) {
			types = file(typesFile, strings.Replace(text, "</Types>", byDefault("xml", "x")+"</Types>", 1))
		}
		wantError(t, text, []api.File{types, file("a.xml", "")}, api.ErrPart)
		wantError(t, text+" alone", []api.File{file(typesFile, text)}, api.ErrPart)
		wantError(t, text+" ahead of a wrong name", []api.File{types, file("a\\", "")}, api.ErrPart)
		wantError(t, text+" behind a file of what leads that is no XML", []api.File{file("_rels/.rels", "\x01"), types}, api.ErrPart)
	}
}

// TestReadTypesLoose: P803, what a types' file may have beside what it must.
func TestReadTypesLoose(t *testing.T) {
	want := opc.Package{Parts: []opc.Part{{Name: "a.xml", Type: "x"}}}
	for _, text := range []string{
		`<Types xmlns="` + typesNs + `"><Default Extension="xml" ContentType="x"/></Types>`,
		`<?xml version="1.0"?><!-- a --><p:Types xmlns:p="` + typesNs + `"><p:Default ContentType="x" Extension="xml"></p:Default></p:Types> `,
		`<Types xmlns="` + typesNs + `" x="1">text<!-- b --><Default Extension="xml" ContentType="x" y="2"/> &amp; </Types>`,
		`<Types xmlns="` + typesNs + `"><Default Extension="" ContentType=""/><Default Extension="b" ContentType=""/><Override PartName="/b" ContentType=""/><Override PartName="/../&#10;\" ContentType=""/><Override PartName="//a.xml" ContentType="y"/><Override PartName="/a.xml/" ContentType="y"/><Default Extension="xml" ContentType="x"/></Types>`,
		`<Types xmlns="` + typesNs + `"><Default Extension="xml" ContentType="x">text<Other/></Default></Types>`,
	} {
		wantPackage(t, text, []api.File{file(typesFile, text), file("a.xml", "")}, want)
	}
	wantPackage(t, "the types' file alone", []api.File{plain()}, opc.Package{})
	wantPackage(t, "an empty one", []api.File{file(typesFile, `<Types xmlns="`+typesNs+`"/>`)}, opc.Package{})
	wantPackage(t, "the types' file behind", []api.File{file("a.xml", ""), plain()}, want)
}

// TestReadPartTypes: P803, a part's type. An empty want stands for ErrPart.
func TestReadPartTypes(t *testing.T) {
	for _, c := range []struct{ name, types, want string }{
		{"a.xml", byDefault("xml", "x"), "x"}, {"a.xml", override("/a.xml", "o"), "o"}, {"a.xml", byDefault("xml", "x") + override("/a.xml", "o"), "o"}, {"a.xml", override("/a.xml", "o") + byDefault("xml", "x"), "o"}, {"a.xml", byDefault("xml", "x") + override("/b.xml", "o"), "x"},
		{"a.xml", override("/a.xml", "o1") + override("/a.xml", "o2"), "o1"}, {"a.xml", override("/A.xml", "o1") + override("/a.xml", "o2"), "o1"}, {"a.xml", byDefault("xml", "x1") + byDefault("xml", "x2"), "x1"}, {"a.xml", byDefault("XML", "x1") + byDefault("xml", "x2"), "x1"}, {"a.xml", byDefault("b", "y") + byDefault("xml", "x"), "x"},
		{"a.xml", byDefault("XML", "x"), "x"}, {"a.xml", byDefault("xMl", "x"), "x"}, {"A.XML", byDefault("xml", "x"), "x"}, {"a.xml", override("/A.Xml", "o"), "o"}, {"XL/a.xml", override("/xl/A.xml", "o"), "o"},
		{"a", byDefault("xml", "x"), ""}, {"a", byDefault("a", "x"), ""}, {"a", byDefault("", "x"), ""}, {"xml", byDefault("xml", "x"), ""}, {"xl.xml/a", byDefault("xml", "x"), ""}, {"xl.xml/a", byDefault("xml/a", "x"), ""}, {"a", override("/a", "o"), "o"}, {"xl/a.xml", byDefault("xml", "x"), "x"}, {"xl.b/a.xml", byDefault("xml", "x"), "x"},
		{".xml", byDefault("xml", "x"), "x"}, {"xl/.xml", byDefault("xml", "x"), "x"}, {".xml", byDefault(".xml", "x"), ""}, {"a.xml", byDefault(".xml", "x"), ""}, {"a.b.xml", byDefault("xml", "x"), "x"}, {"a.b.xml", byDefault("b.xml", "x"), ""}, {"a.b.xml", byDefault("b", "x"), ""}, {"a.", byDefault("", "x"), "x"}, {"a.", byDefault("a", "x"), ""}, {"a..", byDefault("", "x"), "x"}, {"a.xml.", byDefault("xml", "x"), ""}, {"a.xmlx", byDefault("xml", "x"), ""}, {"a.xm", byDefault("xml", "x"), ""},
		{"a.rels", byDefault("rels", "x"), "x"}, {".rels", byDefault("rels", "x"), "x"},
		{"a.xml", "", ""}, {"a.xml", override("/b.xml", "o"), ""}, {"a.xml", override("/xl/a.xml", "o"), ""}, {"xl/a.xml", override("/a.xml", "o"), ""}, {"a.xml", override("//a.xml", "o"), ""}, {"a.xml", override("/a.xm", "o"), ""}, {"a.xml", override("/a.xml ", "o"), ""},
		{"a.xml", byDefault("xml", ""), ""}, {"a.xml", override("/a.xml", ""), ""}, {"a.xml", override("/a.xml", "") + byDefault("xml", "x"), ""}, {"a.xml", override("/a.xml", "") + override("/a.xml", "o"), ""}, {"a.xml", byDefault("xml", "") + byDefault("xml", "x"), ""}, {"a.xml", byDefault("xml", "") + override("/a.xml", "o"), "o"},
		{"a.k", byDefault("\u212a", "x"), ""}, {"k", override("/\u212a", "o"), ""}, {"s", override("/\u017f", "o"), ""}, {"a.xml", override("/a.xml", "<&>\"'\t\r\n \u4f60"), "<&>\"'\t\r\n \u4f60"}, {"a&b.<c>", override("/a&b.<c>", "o"), "o"}, {"a.<c>", byDefault("<C>", "x"), "x"}, {"a[.{", byDefault("[", "x"), ""},
	} {
		what := c.name + " by " + c.types
		l := []api.File{typed(c.types), file(c.name, "d")}
		if c.want == "" {
			wantError(t, what, l, api.ErrPart)
			continue
		}
		wantPackage(t, what, l, opc.Package{Parts: []opc.Part{{Name: c.name, Type: c.want, Data: []byte("d")}}})
	}
}

// TestReadPartNames: P803, ErrName: a part's name is not right; ErrPart where it is one of a file of what leads.
func TestReadPartNames(t *testing.T) {
	for _, name := range wrongNames() {
		want := api.ErrName
		switch {
		case strings.EqualFold(name, typesFile):
			want = api.ErrTwice
		case name == "_rels/.rels":
			want = api.ErrXml
		case strings.Contains(strings.ToLower(name), "_rels/"):
			want = api.ErrPart
		}
		wantError(t, name, []api.File{typed(override("/"+strings.ToValidUTF8(strings.Map(printable, name), ""), "x")), file(name, "")}, want)
		wantError(t, name+", without a type", []api.File{typed(), file(name, "")}, want)
	}
	for _, name := range rightNames() {
		wantPackage(t, name, []api.File{file(name, "<"), typed(override("/"+name, "x"))}, opc.Package{Parts: []opc.Part{{Name: name, Type: "x", Data: []byte("<")}}})
	}
}

// printable drops what XML may not have.
func printable(r rune) rune {
	if r < ' ' || r == 0xfffd {
		return -1
	}
	return r
}

// some are two parts and one in a folder, behind their types' file.
func some(more ...api.File) []api.File {
	return append([]api.File{plain(), file("a.xml", "A"), file("xl/b.xml", "B"), file("xl/c/d.xml", "D")}, more...)
}

func someWith(rels ...opc.Rel) opc.Package {
	return opc.Package{Parts: []opc.Part{{Name: "a.xml", Type: "x", Data: []byte("A")}, {Name: "xl/b.xml", Type: "x", Data: []byte("B")}, {Name: "xl/c/d.xml", Type: "x", Data: []byte("D")}}, Rels: rels}
}

// TestReadRels: P803, files of what leads, wherever they stand, and what they tell.
func TestReadRels(t *testing.T) {
	own := led("_rels/.rels", rel("r1", "k", "/a.xml"), rel("r2", "k", "xl/b.xml"), rel("R1", "l", "./xl/../a.xml"))
	ofA := led("_rels/a.xml.rels", rel("r1", "m", "a.xml"), rel("r0", "m", "xl/c/d.xml"))
	ofB := led("xl/_rels/b.xml.rels", rel("r1", "n", "../a.xml"), rel("r2", "n", "c/d.xml"), rel("r3", "n", "b.xml"), rel("r4", "n", "/xl/b.xml"))
	ofD := led("xl/c/_rels/d.xml.rels", rel("r1", "o", "../../a.xml"), rel("r2", "o", "../b.xml"), rel("r3", "o", "d.xml"), rel("r4", "o", "../c/./d.xml"))
	rels := map[string][]opc.Rel{
		own.Name: {{From: "", Id: "r1", Type: "k", To: "a.xml"}, {From: "", Id: "r2", Type: "k", To: "xl/b.xml"}, {From: "", Id: "R1", Type: "l", To: "a.xml"}},
		ofA.Name: {{From: "a.xml", Id: "r1", Type: "m", To: "a.xml"}, {From: "a.xml", Id: "r0", Type: "m", To: "xl/c/d.xml"}},
		ofB.Name: {{From: "xl/b.xml", Id: "r1", Type: "n", To: "a.xml"}, {From: "xl/b.xml", Id: "r2", Type: "n", To: "xl/c/d.xml"}, {From: "xl/b.xml", Id: "r3", Type: "n", To: "xl/b.xml"}, {From: "xl/b.xml", Id: "r4", Type: "n", To: "xl/b.xml"}},
		ofD.Name: {{From: "xl/c/d.xml", Id: "r1", Type: "o", To: "a.xml"}, {From: "xl/c/d.xml", Id: "r2", Type: "o", To: "xl/b.xml"}, {From: "xl/c/d.xml", Id: "r3", Type: "o", To: "xl/c/d.xml"}, {From: "xl/c/d.xml", Id: "r4", Type: "o", To: "xl/c/d.xml"}},
	}
	chance := rand.New(rand.NewSource(803))
	all := some(own, ofA, ofB, ofD)
	for range 200 {
		var want opc.Package
		for _, f := range all {
			switch {
			case strings.Contains(f.Name, "_rels"):
				want.Rels = append(want.Rels, rels[f.Name]...)
			case f.Name != typesFile:
				want.Parts = append(want.Parts, opc.Part{Name: f.Name, Type: "x", Data: f.Data})
			}
		}
		wantPackage(t, "four files of what leads", all, want)
		chance.Shuffle(len(all), func(i, j int) { all[i], all[j] = all[j], all[i] })
	}
}

// TestReadRelsLoose: P803, what a file of what leads may have beside what it must.
func TestReadRelsLoose(t *testing.T) {
	one := opc.Rel{Id: "r", Type: "k", To: "a.xml"}
	for _, c := range []struct {
		text string
		want []opc.Rel
	}{
		{`<Relationships xmlns="` + relsNs + `"/>`, nil},
		{`<Relationships xmlns="` + relsNs + `"> <!-- a --> text</Relationships>`, nil},
		{`<?xml version="1.0"?><q:Relationships xmlns:q="` + relsNs + `"> <q:Relationship Target="/a.xml" Type="k" Id="r"></q:Relationship>` + "\n" + `</q:Relationships>`, []opc.Rel{one}},
		{`<Relationships xmlns="` + relsNs + `" x="1">text<Relationship Id="r" Type="k" Target="a.xml" TargetMode="Internal" y="2">more<Other/></Relationship></Relationships>`, []opc.Rel{one}},
		{`<Relationships xmlns="` + relsNs + `" xmlns:p="u"><Relationship Id="r" Type="k" Target="a.xml" p:TargetMode="External" p:Id="" p:Type="" p:Target=""/></Relationships>`, []opc.Rel{one}},
		{`<Relationships xmlns="` + relsNs + `"><Relationship Id="&lt;&#13;" Type=" &amp; " Target="&#97;.xml"/></Relationships>`, []opc.Rel{{Id: "<\r", Type: " & ", To: "a.xml"}}},
	} {
		wantPackage(t, c.text, some(file("_rels/.rels", c.text)), someWith(c.want...))
	}
}

// TestReadRelsNames: P803, ErrPart: a file whose last folder is _rels is not RelsOf of a part that is there.
func TestReadRelsNames(t *testing.T) {
	for _, name := range []string{
		"_rels/b.xml.rels", "_rels/none.rels", "xl/_rels/a.xml.rels", "xl/_rels/none.xml.rels", "c/_rels/d.xml.rels", "xl/_rels/.rels", "xl/c/_rels/.rels", "none/_rels/.rels", "_rels/_rels/.rels", "_rels/xl/_rels/b.xml.rels",
		"_rels/a.xml", "_rels/a.xmlrels", "_rels/a.xml.rels.rels", "_rels/rels", "_rels/", "_rels/a.xml.relsx", "_rels/a.xml.rel", "xl/_rels/b.xml", "xl/_rels/b.rels", "/_rels/a.xml.rels", "/_rels/.rels", "//_rels/.rels",
		"_RELS/.rels", "_Rels/.rels", "_rels/.RELS", "_rels/.Rels", "_rels/A.xml.rels", "_RELS/a.xml.rels", "_rels/a.xml.RELS", "_rels/a.XML.rels", "XL/_rels/b.xml.rels", "xl/_RELS/b.xml.rels", "xl/_rels/B.xml.rels", "xl/_rels/b.xml.Rels",
		"_rels/" + typesFile + ".rels", "_rels/[content_types].xml.rels", "_rels/_rels/.rels.rels",
	} {
		f := led(name, rel("r", "k", "/a.xml"))
		wantError(t, name, some(f), api.ErrPart)
		wantError(t, name+" ahead", slices.Insert(some(), 0, f), api.ErrPart)
		wantError(t, name+", which is no XML", some(file(name, "<")), api.ErrPart)
	}
	for _, wrong := range []string{"a\\b", "a:b", "/a", "xl/../a", "\u00f1", "xl/"} {
		wantError(t, wrong, []api.File{plain(), led(opc.RelsOf(wrong)), file(wrong, "")}, api.ErrPart)
		wantError(t, wrong, []api.File{plain(), file(wrong, ""), led(opc.RelsOf(wrong))}, api.ErrName)
	}
	of := led("_rels/.rels", rel("r", "k", "/a.xml"))
	wantError(t, "what leads from a file of what leads", some(of, led("_rels/_rels/.rels.rels")), api.ErrPart)
	nested := []api.File{plain(), file("_rels/x/a.xml", ""), led("_rels/x/_rels/a.xml.rels", rel("r", "k", "a.xml"))}
	wantPackage(t, "a part two folders within _rels", nested, opc.Package{Parts: []opc.Part{{Name: "_rels/x/a.xml", Type: "x"}}, Rels: []opc.Rel{{From: "_rels/x/a.xml", Id: "r", Type: "k", To: "_rels/x/a.xml"}}})
}

// TestReadRelsXml: P803, xml's error of a file of what leads, and ErrPart where it is not as the words say.
func TestReadRelsXml(t *testing.T) {
	for _, name := range []string{"_rels/.rels", "_rels/a.xml.rels", "xl/_rels/b.xml.rels"} {
		for text, want := range notXml() {
			wantError(t, fmt.Sprintf("%s %.50q", name, text), some(file(name, text)), want)
		}
		for _, text := range []string{
			`<Relationships/>`, `<Relationships xmlns="` + typesNs + `"/>`, `<relationships xmlns="` + relsNs + `"/>`, `<Relationship xmlns="` + relsNs + `" Id="r" Type="k" Target="/a.xml"/>`, string(plain().Data),
			string(led("", `<Other/>`).Data), string(led("", `<Relationships/>`).Data), string(led("", `<relationship Id="r" Type="k" Target="/a.xml"/>`).Data), string(led("", `<Relationship xmlns="u" Id="r" Type="k" Target="/a.xml"/>`).Data), string(led("", `<Relationship xmlns="" Id="r" Type="k" Target="/a.xml"/>`).Data), string(led("", `<Default Id="r" Type="k" Target="/a.xml"/>`).Data),
			string(led("", rel("r", "k", "/a.xml"), `<Other/>`).Data), string(led("", `<Other/>`, rel("r", "k", "/a.xml")).Data), string(led("", rel("r", "k", "/none"), `<Other/>`).Data), string(led("", rel("r", "k", "/a.xml"), rel("r", "k", "/a.xml"), `<Other/>`).Data),
		} {
			wantError(t, name+" "+text, some(file(name, text)), api.ErrPart)
		}
	}
}

// TestReadRelationship: P803, what is wrong with one Relationship.
func TestReadRelationship(t *testing.T) {
	for _, c := range []struct {
		what string
		want api.Errno
	}{
		{`Id="r" Type="k" Target="/a.xml"`, api.OK}, {`Id="r" Type="k" Target="/a.xml" TargetMode="Internal"`, api.OK},
		{`Id="r" Type="k" Target="/a.xml" TargetMode="External"`, api.ErrPart}, {`Id="r" Type="k" Target="/a.xml" TargetMode=""`, api.ErrPart}, {`Id="r" Type="k" Target="/a.xml" TargetMode="internal"`, api.ErrPart}, {`Id="r" Type="k" Target="/a.xml" TargetMode="Internal "`, api.ErrPart}, {`Id="r" Type="k" Target="http://a.example/" TargetMode="External"`, api.ErrPart},
		{``, api.ErrPart}, {`Type="k" Target="/a.xml"`, api.ErrPart}, {`Id="r" Target="/a.xml"`, api.ErrPart}, {`Id="r" Type="k"`, api.ErrPart}, {`Id="" Type="k" Target="/a.xml"`, api.ErrPart}, {`Id="r" Type="" Target="/a.xml"`, api.ErrPart}, {`Id="r" Type="k" Target=""`, api.ErrPart}, {`id="r" Type="k" Target="/a.xml"`, api.ErrPart}, {`Id="r" type="k" Target="/a.xml"`, api.ErrPart}, {`Id="r" Type="k" target="/a.xml"`, api.ErrPart}, {`xmlns:p="u" p:Id="r" Type="k" Target="/a.xml"`, api.ErrPart}, {`xmlns:p="u" Id="r" p:Type="k" Target="/a.xml"`, api.ErrPart}, {`xmlns:p="u" Id="r" Type="k" p:Target="/a.xml"`, api.ErrPart}, {`xmlns:p="` + relsNs + `" p:Id="r" p:Type="k" p:Target="/a.xml"`, api.ErrPart},
		{`Id="r" Type="k" Target="/"`, api.ErrPart}, {`Id="r" Type="k" Target="//a.xml"`, api.ErrPart}, {`Id="r" Type="k" Target="/a.xml/"`, api.ErrPart}, {`Id="r" Type="k" Target="/xl/../a.xml"`, api.ErrPart}, {`Id="r" Type="k" Target="../../../a.xml"`, api.ErrPart}, {`Id="r" Type="k" Target="http://a.example/"`, api.ErrPart}, {`Id="r" Type="k" Target="a:b"`, api.ErrPart}, {`Id="r" Type="k" Target="a\b"`, api.ErrPart}, {`Id="r" Type="k" Target="&#9;"`, api.ErrPart},
		{`Id="r" Type="k" Target="/none"`, api.ErrNone}, {`Id="r" Type="k" Target="none"`, api.ErrNone}, {`Id="r" Type="k" Target="/A.xml"`, api.ErrNone}, {`Id="r" Type="k" Target="/XL/b.xml"`, api.ErrNone}, {`Id="r" Type="k" Target="/xl"`, api.ErrNone}, {`Id="r" Type="k" Target="/` + typesFile + `"`, api.ErrNone}, {`Id="r" Type="k" Target="/[content_types].xml"`, api.ErrNone}, {`Id="r" Type="k" Target="/_rels/.rels"`, api.ErrNone}, {`Id="r" Type="k" Target="/_rels/a.xml.rels"`, api.ErrNone}, {`Id="r" Type="k" Target="/xl/_rels/b.xml.rels"`, api.ErrNone}, {`Id="r" Type="k" Target="/a.xml "`, api.ErrNone}, {`Id="r" Type="k" Target="#a.xml"`, api.ErrNone},
	} {
		text := "<Relationship " + c.what + "/>"
		for name, from := range map[string]string{"_rels/.rels": "", "_rels/a.xml.rels": "a.xml", "xl/_rels/b.xml.rels": "xl/b.xml"} {
			others := []api.File{led("_rels/.rels"), led("_rels/a.xml.rels"), led("xl/_rels/b.xml.rels")}
			at := slices.IndexFunc(others, func(f api.File) bool { return f.Name == name })
			others[at] = led(name, rel("r1", "k", "/a.xml"), text, rel("r2", "k", "/xl/b.xml"))
			if c.want != api.OK {
				wantError(t, name+": "+text, some(others...), c.want)
				continue
			}
			wantPackage(t, name+": "+text, some(others...), someWith(opc.Rel{From: from, Id: "r1", Type: "k", To: "a.xml"}, opc.Rel{From: from, Id: "r", Type: "k", To: "a.xml"}, opc.Rel{From: from, Id: "r2", Type: "k", To: "xl/b.xml"}))
		}
	}
	wantError(t, "above the package", some(led("_rels/a.xml.rels", rel("r", "k", "../a.xml"))), api.ErrPart)
	wantError(t, "a target of another folder", some(led("xl/_rels/b.xml.rels", rel("r", "k", "a.xml"))), api.ErrNone)
	wantError(t, "to a file in _rels in other letters, that stands behind", some(led("_rels/.rels", rel("r", "k", "_RELS/x.xml")), file("_RELS/x.xml", "")), api.ErrNone)
	wantError(t, "to a file in _rels in other letters, that stands ahead", some(file("_RELS/x.xml", ""), led("_rels/.rels", rel("r", "k", "_RELS/x.xml"))), api.ErrPart)
	wantError(t, "to a part without a type, that stands behind", some(led("_rels/.rels", rel("r", "k", "x")), file("x", "")), api.ErrPart)
}

// TestReadIds: P803, ErrTwice: the Id stood there already.
func TestReadIds(t *testing.T) {
	a, b, upper := rel("r", "k", "/a.xml"), rel("s", "k", "/a.xml"), rel("R", "k", "/a.xml")
	other := rel("r", "l", "/xl/b.xml")
	for _, kids := range [][]string{{a, a}, {a, other}, {a, b, a}, {b, a, upper, other}, {a, b, b}, {b, a, a, b}} {
		for _, name := range []string{"_rels/.rels", "xl/_rels/b.xml.rels"} {
			wantError(t, strings.Join(kids, ""), some(led(name, kids...)), api.ErrTwice)
		}
	}
	wantPackage(t, "one Id in two files, and in other letters", some(led("_rels/.rels", a, upper), led("_rels/a.xml.rels", upper, other)),
		someWith(opc.Rel{Id: "r", Type: "k", To: "a.xml"}, opc.Rel{Id: "R", Type: "k", To: "a.xml"}, opc.Rel{From: "a.xml", Id: "R", Type: "k", To: "a.xml"}, opc.Rel{From: "a.xml", Id: "r", Type: "l", To: "xl/b.xml"}))
}

// TestReadOrderInRels: P803, which of two errors comes, within one Relationship and of two.
func TestReadOrderInRels(t *testing.T) {
	good, first := rel("r", "k", "/a.xml"), rel("s", "k", "/a.xml")
	wrong := []struct {
		text string
		want api.Errno
	}{
		{`<Relationship Id="t" Type="k" Target="/a.xml" TargetMode="External"/>`, api.ErrPart}, {`<Relationship Type="k" Target="/a.xml"/>`, api.ErrPart}, {`<Relationship Id="t" Type="" Target="/a.xml"/>`, api.ErrPart}, {`<Relationship Id="t" Type="k" Target="//"/>`, api.ErrPart},
		{rel("t", "k", "/none"), api.ErrNone}, {rel("s", "k", "/a.xml"), api.ErrTwice},
		{`<Relationship Id="s" Type="k" Target="/none" TargetMode="External"/>`, api.ErrPart}, {`<Relationship Id="s" Type="" Target="/none"/>`, api.ErrPart}, {`<Relationship Id="s" Type="k" Target="/none/"/>`, api.ErrPart}, {`<Relationship Id="s" Type="" Target="/a.xml"/>`, api.ErrPart}, {rel("s", "k", "/none"), api.ErrNone}, {rel("s", "k", "/A.xml"), api.ErrNone},
	}
	for _, a := range wrong {
		wantError(t, a.text, some(led("_rels/.rels", first, good, a.text)), a.want)
		for _, b := range wrong {
			if a.want == b.want || b.want == api.ErrPart {
				continue
			}
			wantError(t, a.text+", then "+b.text, some(led("_rels/.rels", first, a.text, good, b.text)), a.want)
		}
	}
}

// wrongFile is a file, ahead of or behind others, with the error that comes of it.
type wrongFile struct {
	f    api.File
	want api.Errno
}

// wrongFiles are files of all errors; no two are like.
func wrongFiles() []wrongFile {
	return []wrongFile{
		{file("bad\\name.xml", ""), api.ErrName}, {file("bad:name.xml", ""), api.ErrName}, {file("none", ""), api.ErrPart}, {file("xl/empty.e", ""), api.ErrPart},
		{led("_rels/none.rels.rels"), api.ErrPart}, {file("_rels/.rels", "<"), api.ErrXml}, {file("xl/_rels/b.xml.rels", "\x01"), api.ErrText}, {file("xl/c/_rels/d.xml.rels", deepXml()), api.ErrDeep}, {led("_rels/a.xml.rels", "<Other/>"), api.ErrPart},
		{led("_rels/e.xml.rels", rel("", "k", "/a.xml")), api.ErrPart}, {led("_rels/f.xml.rels", rel("r", "k", "/none.xml")), api.ErrNone}, {led("_rels/g.xml.rels", rel("r", "k", "/a.xml"), rel("r", "k", "/a.xml")), api.ErrTwice}, {file("_rels/h.xml.rels", strings.Repeat(" ", api.MaxPart+1)), api.ErrBig},
	}
}

// TestReadOrderOfFiles: P803, of two files that are wrong the one that stands ahead is told.
func TestReadOrderOfFiles(t *testing.T) {
	types := typed(byDefault("xml", "x"), byDefault("e", ""))
	base := []api.File{types, file("a.xml", ""), file("xl/b.xml", ""), file("xl/c/d.xml", ""), file("e.xml", ""), file("f.xml", ""), file("g.xml", ""), file("h.xml", "")}
	for i, a := range wrongFiles() {
		for j, b := range wrongFiles() {
			if i == j {
				continue
			}
			wantError(t, a.f.Name+", then "+b.f.Name, append(slices.Clip(base), a.f, b.f), a.want)
			wantError(t, a.f.Name+" ahead of all, "+b.f.Name+" behind", append(append([]api.File{a.f}, base...), b.f), a.want)
		}
		spoilt := append(slices.Clip(base), a.f)
		spoilt[0] = typed("<Other/>")
		wantError(t, a.f.Name+", and types that are none", spoilt, api.ErrPart)
		spoilt[0] = file(typesFile, "\x01")
		wantError(t, a.f.Name+", and types that are no XML", spoilt, api.ErrText)
		wantError(t, a.f.Name+", and two that are like", append(spoilt, file("A.xml", "")), api.ErrTwice)
		wantError(t, a.f.Name+", and no types", append(slices.Clip(base[1:]), a.f, file("A.xml", "")), api.ErrPart)
	}
}

// anyFiles are files by chance: what is mostly a package.
func anyFiles(chance *rand.Rand) []api.File {
	pick := func(l ...string) string { return l[chance.Intn(len(l))] }
	seldom := func(often int, plain string, odd ...string) string {
		if chance.Intn(often) == 0 {
			return pick(odd...)
		}
		return plain
	}
	var kids []string
	for range chance.Intn(5) {
		kids = append(kids, pick(byDefault("bin", "b"), byDefault("XML", "y"), override("/a.xml", "o"), override("/XL/b.xml", "o"), override("/c", pick("o", "p"))))
	}
	kids = append(kids, byDefault(pick("xml", "xml", "Xml"), pick("x", "x", "x", "x", "")), seldom(60, "", "<Other/>", `<Default Extension="a"/>`, override("c", "o"), "text", "<", "\x01"))
	l := []api.File{typed(kids...)}
	parts := []string{"a.xml", "xl/b.xml", "xl/b/d.XML", "e.bin", "c"}
	for _, name := range parts {
		if chance.Intn(4) > 0 {
			l = append(l, file(name, pick("", "d", "<", "\xff")))
		}
	}
	for _, f := range l[1:] {
		if chance.Intn(3) == 0 {
			l = append(l, ledByChance(seldom(30, opc.RelsOf(f.Name), opc.RelsOf(pick(parts...)), "_rels/A.xml.rels", "xl/_RELS/b.xml.rels"), pick, seldom))
		}
	}
	if chance.Intn(2) == 0 {
		l = append(l, ledByChance("_rels/.rels", pick, seldom))
	}
	if chance.Intn(20) == 0 {
		l = append(l, file(pick("A.xml", "bad\\", "xl/_rels/x", "none", "[content_types].xml", "XL/b.xml"), ""))
	}
	if chance.Intn(60) == 0 {
		l = l[1:]
	}
	chance.Shuffle(len(l), func(i, j int) { l[i], l[j] = l[j], l[i] })
	return l
}

// ledByChance is a file of what leads, mostly a right one.
func ledByChance(name string, pick func(...string) string, seldom func(int, string, ...string) string) api.File {
	var kids []string
	for i, more := 0, pick("", "r", "rr", "rrr"); i < len(more); i++ {
		kids = append(kids, fmt.Sprintf("<Relationship%s Type=%s Target=%s%s/>",
			seldom(40, fmt.Sprintf(` Id="r%d"`, i), ` Id="r0"`, ` Id="R0"`, ` Id=""`, ``), quoted(seldom(60, "k", "")),
			quoted(pick("/a.xml", "/a.xml", "/xl/b.xml", "a.xml", "b.xml", "../a.xml", "b/d.XML", "/e.bin", "./c", "xl/b.xml", "/c")), seldom(20, "", ` TargetMode="Internal"`, ` TargetMode="Internal"`, ` TargetMode="External"`)))
	}
	kids = append(kids, seldom(80, "", "<Other/>", "</x>", "text", "\x01"))
	return led(name, kids...)
}

// TestReadAsTheModel: P803, P805: files by chance, held against the model.
func TestReadAsTheModel(t *testing.T) {
	chance := rand.New(rand.NewSource(8030))
	met := map[api.Errno]int{}
	for range 20000 {
		_, e := read(t, "by chance", anyFiles(chance))
		met[e]++
	}
	for _, e := range []api.Errno{api.OK, api.ErrPart, api.ErrTwice, api.ErrXml, api.ErrText, api.ErrNone, api.ErrName} {
		if met[e] < 50 {
			t.Errorf("%d lists of files had error %d", met[e], e)
		}
	}
}

// TestReadSharesNothing: rule 4.
func TestReadSharesNothing(t *testing.T) {
	make := func() []api.File {
		l := some(led("_rels/.rels", rel("r", "k", "/a.xml")))
		for i := range l {
			l[i].Data = roomy(l[i].Data)
		}
		return append(l, file("spare", ""))[:len(l)]
	}
	l := make()
	first, _ := opc.Read(l)
	second, e := opc.Read(l)
	for _, part := range first.Parts {
		scribble(part.Data)
	}
	clear(first.Parts[:cap(first.Parts)])
	clear(first.Rels[:cap(first.Rels)])
	if !sameFiles(l, make()) || l[:len(l)+1][len(l)].Name != "spare" {
		t.Errorf("what Read hands out is a part of what it was given:\n%s", dumpFiles(l))
	}
	for _, f := range l {
		if string(f.Data[len(f.Data):cap(f.Data)]) != "spare" {
			t.Errorf("the spare room of %q has been changed", f.Name)
		}
		scribble(f.Data)
	}
	if want := someWith(opc.Rel{Id: "r", Type: "k", To: "a.xml"}); e != api.OK || dump(second) != dump(want) {
		t.Errorf("Read keeps what it was given, or two answers share something: %v\n%s", e, dump(second))
	}
}

// TestReadCrowd: P803, of many files, and of one with many elements.
func TestReadCrowd(t *testing.T) {
	l := []api.File{plain()}
	for i := range 20000 {
		l = append(l, file(fmt.Sprintf("p%d.xml", i), ""))
	}
	var kids []string
	for i := range 4000 {
		kids = append(kids, rel(fmt.Sprint("r", i), "k", fmt.Sprintf("p%d.xml", i)))
	}
	l = append(l, led("_rels/.rels", kids...))
	if p, e := opc.Read(l); e != api.OK || len(p.Parts) != 20000 || len(p.Rels) != 4000 || p.Rels[3999].To != "p3999.xml" {
		t.Errorf("Read of many files: %v", e)
	}
	l[len(l)-1] = led("_rels/.rels", append(kids, rel("r0", "k", "p0.xml"))...)
	if _, e := opc.Read(l); e != api.ErrTwice {
		t.Errorf("Read of many files, an Id twice: %v", e)
	}
	if _, e := opc.Read(append(l, file("P19999.xml", ""))); e != api.ErrTwice {
		t.Errorf("Read of many files, a name twice: %v", e)
	}
}
