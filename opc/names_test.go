package opc_test

import (
	"math/rand"
	"strings"
	"testing"

	"quire/api"
	"quire/opc"
)

// P804: RelsOf.
func TestRelsOf(t *testing.T) {
	for name, want := range map[string]string{
		"":                    "_rels/.rels",
		"a":                   "_rels/a.rels",
		"a.xml":               "_rels/a.xml.rels",
		".xml":                "_rels/.xml.rels",
		"xl/a.xml":            "xl/_rels/a.xml.rels",
		"xl/b/c.xml":          "xl/b/_rels/c.xml.rels",
		"XL/A.XML":            "XL/_rels/A.XML.rels",
		"_rels/.rels":         "_rels/_rels/.rels.rels",
		"xl/":                 "xl/_rels/.rels",
		"/":                   "/_rels/.rels",
		"/a":                  "/_rels/a.rels",
		"a//b":                "a//_rels/b.rels",
		"[Content_Types].xml": "_rels/[Content_Types].xml.rels",
		"\xff/\x00":           "\xff/_rels/\x00.rels",
	} {
		if got := opc.RelsOf(name); got != want {
			t.Errorf("RelsOf(%q): %q, not %q", name, got, want)
		}
	}
}

// resolves asks for a name, or for none where want is empty.
func resolves(t *testing.T, from, target, want string) {
	t.Helper()
	if got, ok := opc.Resolve(from, target); got != want || ok != (want != "") {
		t.Errorf("Resolve(%q, %q): %q %v, not %q", from, target, got, ok, want)
	}
	if got, ok := modelResolve(from, target); got != want || ok != (want != "") {
		t.Errorf("the model of (%q, %q): %q %v, not %q", from, target, got, ok, want)
	}
}

// P804: Resolve: the chapter's examples, and targets of all shapes.
func TestResolve(t *testing.T) {
	for _, c := range [][3]string{
		{"xl/a.xml", "b/c.xml", "xl/b/c.xml"}, {"xl/a.xml", "../d.xml", "d.xml"}, {"a.xml", "../d", ""}, {"", "/x", "x"},

		{"", "x", "x"}, {"", "x/y", "x/y"}, {"", "./x", "x"}, {"", "../x", ""}, {"", "x/../y", "y"}, {"", "x/..", ""}, {"", "..", ""}, {"", ".", ""},
		{"a.xml", "x", "x"}, {"a.xml", "/x", "x"}, {"a.xml", "./x", "x"}, {"a.xml", "a.xml", "a.xml"},
		{"xl/a.xml", "x", "xl/x"}, {"xl/b/a.xml", "x", "xl/b/x"}, {"xl/b/a.xml", "../x", "xl/x"}, {"xl/b/a.xml", "../../x", "x"}, {"xl/b/a.xml", "../../../x", ""}, {"xl/b/a.xml", "../../../../x", ""},
		{"xl/a.xml", "./x", "xl/x"}, {"xl/a.xml", "././x/./y", "xl/x/y"}, {"xl/a.xml", "x/../y", "xl/y"}, {"xl/a.xml", "x/y/../../z", "xl/z"}, {"xl/a.xml", "x/../../y", "y"}, {"xl/a.xml", "x/../../../y", ""}, {"xl/a.xml", ".././x", "x"}, {"xl/a.xml", "../xl/x", "xl/x"},
		{"xl/a.xml", "../..", ""}, {"xl/a.xml", "../../xl/b", ""}, {"xl/a.xml", "../../xl/../b", ""}, {"xl/a.xml", "..", ""},
		{"xl/a.xml", ".", "xl"}, {"xl/b/a.xml", "..", "xl"}, {"xl/b/a.xml", "c/..", "xl/b"},

		{"xl/a.xml", "/x", "x"}, {"xl/a.xml", "/x/y.xml", "x/y.xml"}, {"xl/a.xml", "/xl/x", "xl/x"}, {"xl/a.xml", "/", ""}, {"xl/a.xml", "//x", ""}, {"xl/a.xml", "/x/", ""}, {"xl/a.xml", "/x//y", ""},
		{"xl/a.xml", "/.", ""}, {"xl/a.xml", "/..", ""}, {"xl/a.xml", "/./x", ""}, {"xl/a.xml", "/x/../y", ""}, {"xl/a.xml", "/../x", ""}, {"", "/x/.", ""},

		{"", "", ""}, {"a.xml", "", ""}, {"xl/a.xml", "", ""}, {"xl/a.xml", "x/", ""}, {"xl/a.xml", "../", ""}, {"xl/a.xml", "./", ""}, {"xl/b/a.xml", "../", ""}, {"", "x/", ""}, {"", "./", ""}, {"xl/a.xml", "x//y", ""}, {"xl/a.xml", "x//../y", "xl/x/y"},
		{"xl/a.xml", "x:y", ""}, {"xl/a.xml", "x\\y", ""}, {"xl/a.xml", "x\n", ""}, {"xl/a.xml", "\u00f1", ""}, {"xl/a.xml", "/\x7f", ""}, {"xl/a.xml", "http://x/y", ""}, {"xl/a.xml", "x y~", "xl/x y~"},
		{"xl/a.xml", "...", "xl/..."}, {"xl/a.xml", ".x", "xl/.x"}, {"xl/a.xml", "..x/y..", "xl/..x/y.."}, {"xl/a.xml", "X", "xl/X"}, {"XL/a.xml", "x", "XL/x"}, {"xl/a.xml", "[Content_Types].xml", "xl/[Content_Types].xml"}, {"xl/a.xml", "_rels/x", "xl/_rels/x"},
	} {
		resolves(t, c[0], c[1], c[2])
	}
}

// P804: what comes may be as long as a name of zip's.
func TestResolveLong(t *testing.T) {
	long := strings.Repeat("n", 255)
	resolves(t, "", "/"+long, long)
	resolves(t, "", "/"+long+"n", "")
	resolves(t, "", long, long)
	resolves(t, "a", long+"n", "")
	resolves(t, "xl/a.xml", long[:252], "xl/"+long[:252])
	resolves(t, "xl/a.xml", long[:253], "")
	resolves(t, "xl/a.xml", "../"+long, long)
	resolves(t, long+"x/a.xml", "../x", "x")
	resolves(t, long+"x/a.xml", "x", "")
	deep := strings.Repeat("d/", 100000)
	resolves(t, deep+"a", strings.Repeat("../", 100000)+"x", "x")
	resolves(t, deep+"a", strings.Repeat("../", 100001)+"x", "")
	resolves(t, "", deep+strings.Repeat("../", 100000)+"x", "x")
	resolves(t, "x/y", strings.Repeat("./", 100000)+"z", "x/z")
}

// P804: Resolve of parts' names and targets by chance, held against the model.
func TestResolveAsTheModel(t *testing.T) {
	chance := rand.New(rand.NewSource(804))
	parts := []string{"a", "b", "xl", ".", "..", "..", "", "...", ".x", "a b", "x:", "_rels"}
	names := parts[:3]
	met := map[bool]int{}
	joined := func(l []string, most int) string {
		var out []string
		for range chance.Intn(most + 1) {
			out = append(out, l[chance.Intn(len(l))])
		}
		return strings.Join(out, "/")
	}
	for range 100000 {
		from, target := joined(names, 4), joined(parts, 6)
		if chance.Intn(4) == 0 {
			target = "/" + target
		}
		got, ok := opc.Resolve(from, target)
		want, wantOk := modelResolve(from, target)
		if got != want || ok != wantOk {
			t.Fatalf("Resolve(%q, %q): %q %v, not %q %v", from, target, got, ok, want, wantOk)
		}
		met[ok]++
	}
	if met[true] < 1000 || met[false] < 1000 {
		t.Errorf("met: %v", met)
	}
}

// Rule 1: Resolve and RelsOf of any bytes.
func TestNamesOfAnyBytes(t *testing.T) {
	chance := rand.New(rand.NewSource(8040))
	for range 20000 {
		b := make([]byte, chance.Intn(12))
		for i := range b {
			b[i] = "/./.a_\x00\xff"[chance.Intn(8)]
		}
		from, target := string(b[:len(b)/2]), string(b[len(b)/2:])
		if got, ok := opc.Resolve(from, target); (got != "") != ok || ok && !modelZipRight(got) {
			t.Fatalf("Resolve(%q, %q): %q %v", from, target, got, ok)
		}
		if got := opc.RelsOf(string(b)); !relsFile.MatchString(got) || strings.Replace(strings.TrimSuffix(got, ".rels"), "_rels/", "", 1) != string(b) {
			t.Fatalf("RelsOf(%q): %q", b, got)
		}
	}
}

func somePackage() opc.Package {
	return opc.Package{
		Parts: []opc.Part{
			{Name: "xl/workbook.xml", Type: "w", Data: []byte("<w/>")},
			{Name: "xl/Sheets/s1.xml", Type: "s", Data: []byte("<s/>")},
			{Name: "xl/Sheets/s2.xml", Type: "s", Data: nil},
			{Name: "media", Type: "image/x", Data: []byte{0, 255, 10, 13}},
			{Name: "last.xml", Type: "l", Data: []byte("last")},
		},
		Rels: []opc.Rel{
			{From: "xl/workbook.xml", Id: "r1", Type: "sheet", To: "xl/Sheets/s1.xml"},
			{From: "", Id: "r1", Type: "book", To: "xl/workbook.xml"},
			{From: "xl/workbook.xml", Id: "r2", Type: "sheet", To: "xl/Sheets/s2.xml"},
			{From: "last.xml", Id: "r9", Type: "image", To: "media"},
			{From: "", Id: "r2", Type: "last", To: "last.xml"},
			{From: "xl/Sheets/s2.xml", Id: "r1", Type: "back", To: "xl/workbook.xml"},
			{From: "xl/workbook.xml", Id: "R1", Type: "image", To: "media"},
			{From: "last.xml", Id: "r1", Type: "self", To: "last.xml"},
			{From: "", Id: "r3", Type: "book", To: "last.xml"},
		},
	}
}

// P804: Find.
func TestFind(t *testing.T) {
	p := somePackage()
	for name, want := range map[string]int{
		"xl/workbook.xml": 0, "xl/Sheets/s1.xml": 1, "xl/Sheets/s2.xml": 2, "media": 3, "last.xml": 4,
		"XL/workbook.xml": -1, "xl/sheets/s1.xml": -1, "Media": -1, "": -1, "last.xm": -1, "last.xmll": -1, "/last.xml": -1, "xl": -1, "xl/": -1, "s1.xml": -1, typesFile: -1, "_rels/.rels": -1,
	} {
		if got := opc.Find(p, name); got != want {
			t.Errorf("Find %q: %d, not %d", name, got, want)
		}
	}
	if got := opc.Find(opc.Package{}, ""); got != -1 {
		t.Errorf("Find in nothing: %d", got)
	}
	if got := opc.Find(opc.Package{Rels: p.Rels}, "last.xml"); got != -1 {
		t.Errorf("Find without parts: %d", got)
	}
	twice := opc.Package{Parts: []opc.Part{{Name: "a"}, {Name: "B"}, {Name: "b"}, {Name: ""}, {Name: "b"}}}
	if a, b, c := opc.Find(twice, "b"), opc.Find(twice, "B"), opc.Find(twice, ""); a != 2 || b != 1 || c != 3 {
		t.Errorf("Find in a package that is not right: %d %d %d", a, b, c)
	}
}

// P804: Target.
func TestTarget(t *testing.T) {
	p := somePackage()
	for _, c := range [][3]string{
		{"xl/workbook.xml", "sheet", "xl/Sheets/s1.xml"}, {"xl/workbook.xml", "image", "media"}, {"", "book", "xl/workbook.xml"}, {"", "last", "last.xml"}, {"last.xml", "self", "last.xml"}, {"last.xml", "image", "media"}, {"xl/Sheets/s2.xml", "back", "xl/workbook.xml"},
		{"xl/Workbook.xml", "sheet", ""}, {"xl/workbook.xml", "Sheet", ""}, {"xl/workbook.xml", "", ""}, {"", "sheet", ""}, {"", "", ""}, {"media", "image", ""}, {"xl/Sheets/s1.xml", "back", ""}, {"none", "book", ""}, {"last.xml", "r9", ""}, {"", "r1", ""},
	} {
		if got, ok := opc.Target(p, c[0], c[1]); got != c[2] || ok != (c[2] != "") {
			t.Errorf("Target of %q, %q: %q %v, not %q", c[0], c[1], got, ok, c[2])
		}
	}
	if got, ok := opc.Target(opc.Package{Parts: p.Parts}, "", "book"); got != "" || ok {
		t.Errorf("Target without Rels: %q %v", got, ok)
	}
	odd := opc.Package{Rels: []opc.Rel{{From: "a", Type: "k", To: ""}, {From: "a", Type: "k", To: "b"}}}
	if got, ok := opc.Target(odd, "a", "k"); got != "" || !ok {
		t.Errorf("Target, to nothing: %q %v", got, ok)
	}
}

// part is one with a type.
func part(name string) opc.Part { return opc.Part{Name: name, Type: "t"} }

// wrongNames are what no part may have for a name.
func wrongNames() []string {
	return []string{
		"", "/", "/a", "a/", "a//b", ".", "..", "./a", "a/.", "a/./b", "a/../b", "a/..", "a\\b", "a:b", "a\x1f", "a\x7f", "\u00f1", "a\xff", "a\n", "a\x00", strings.Repeat("n", 256), strings.Repeat("n/", 127) + "nn",
		typesFile, "[content_types].xml", "[CONTENT_TYPES].XML", "[Content_types].xml", "[Content_Types].xmL",
		"_rels/a", "_rels/.rels", "_rels/a.xml.rels", "_RELS/a", "_Rels/.rels", "_relS/a", "xl/_rels/a.xml.rels", "xl/_rels/a", "xl/_RELS/a.xml", "a/b/_rels/c", "_rels/_rels/c", "_rel\u017f/a", "xl/_rel\u017f/a.xml.rels", "xl/_rels/" + typesFile, "_rels/_rels",
	}
}

// rightNames are what a part may well have for a name.
func rightNames() []string {
	return []string{
		"a", "A", " ", "~", "a.xml", "xl/a.xml", "a.", ".a", "...", "a/b/c/d/e", strings.Repeat("n", 255), strings.Repeat("n/", 127) + "n", "!#$%&'()*+,-;<=>?@[]^_`{|}\"",
		"_rels", "xl/_rels", "_rels/a/b", "xl/_rels/a/b.rels", "_relsx/a", "x_rels/a", "rels/a", "_rel/a", ".rels", "a.rels", "xl/.rels", "_rels.rels", "_rels.xml/a", " _rels/a", "_rels /a",
		"xl/" + typesFile, typesFile + "/a", typesFile + "x", "x" + typesFile, "[Content_Types].xm", "Content_Types.xml", "[Content_Types]", "[Content Types].xml",
	}
}

// P801: a part's name.
func TestPartNames(t *testing.T) {
	for _, name := range wrongNames() {
		if e := opc.Right(opc.Package{Parts: []opc.Part{part(name)}}); e != api.ErrName || modelPartName(name) {
			t.Errorf("Right of a part %q: %v", name, e)
		}
		if e := opc.Right(opc.Package{Parts: []opc.Part{part("a1"), part("b1"), part(name)}}); e != api.ErrName {
			t.Errorf("Right of a part %q behind others: %v", name, e)
		}
	}
	var all opc.Package
	for _, name := range rightNames() {
		p := opc.Package{Parts: []opc.Part{part(name)}, Rels: []opc.Rel{{Id: "r", Type: "k", To: name}, {From: name, Id: "r", Type: "k", To: name}}}
		if e := opc.Right(p); e != api.OK || !modelPartName(name) {
			t.Errorf("Right of a part %q: %v", name, e)
		}
		back(t, name, p)
		if name != "A" {
			all.Parts = append(all.Parts, p.Parts...)
			all.Rels = append(all.Rels, p.Rels[1])
		}
	}
	if e := opc.Right(all); e != api.OK {
		t.Errorf("Right of all right names: %v", e)
	}
	back(t, "all right names", all)
}

// P801: each byte in a name.
func TestPartNamesBytes(t *testing.T) {
	for c := range 256 {
		name := "a" + string([]byte{byte(c)}) + "b"
		want := api.OK
		if c < 0x20 || c > 0x7e || c == '\\' || c == ':' {
			want = api.ErrName
		}
		if e := opc.Right(opc.Package{Parts: []opc.Part{part(name)}}); e != want {
			t.Errorf("Right of a part %q: %v", name, e)
		}
	}
}
