package xml_test

import (
	"fmt"
	"maps"
	"regexp"
	"slices"
	"strconv"
	"strings"
	"testing"
	"unicode/utf8"

	"quire/api"
	"quire/xml"
)

const (
	xmlSpace   = "http://www.w3.org/XML/1998/namespace"
	xmlnsSpace = "http://www.w3.org/2000/xmlns/"
)

// dump is all that a node has, as a text: what the tests hold against each other.
func dump(n xml.Node) string {
	var out strings.Builder
	fmt.Fprintf(&out, "{%q %q %q", n.Space, n.Name, n.Text)
	for _, a := range n.Attrs {
		fmt.Fprintf(&out, " %q", a)
	}
	for _, k := range n.Kids {
		out.WriteString(dump(k))
	}
	return out.String() + "}"
}

const (
	blankPattern = `[ \t\n\r]`
	namePattern  = `[A-Za-z_][A-Za-z0-9_.\-]*`
	fullPattern  = namePattern + `(?::` + namePattern + `)?`
	// A remark, or a declaration, ends at the first end that is there.
	remarkPattern = `<!--(?s:.*?)-->`
)

var (
	declared     = regexp.MustCompile(`^<\?xml` + blankPattern + `(?s:.*?)\?>`)
	needsEnd     = regexp.MustCompile(`^<\?xml` + blankPattern)
	gaps         = regexp.MustCompile(`^(?:` + blankPattern + `|` + remarkPattern + `)*`)
	remark       = regexp.MustCompile(`^` + remarkPattern)
	begins       = regexp.MustCompile(`^<[A-Za-z_]`)
	beginning    = regexp.MustCompile(`^<(` + fullPattern + `)`)
	nextBegins   = regexp.MustCompile(`^` + blankPattern + `+[A-Za-z_]`)
	nextAttr     = regexp.MustCompile(`^` + blankPattern + `+(` + fullPattern + `)` + blankPattern + `*=` + blankPattern + `*("[^"<]*"|'[^'<]*')`)
	tagEnd       = regexp.MustCompile(`^` + blankPattern + `*(/?>)`)
	ending       = regexp.MustCompile(`^</(` + fullPattern + `)` + blankPattern + `*>`)
	plainText    = regexp.MustCompile(`^[^<]+`)
	allReferred  = regexp.MustCompile(`^(?s:[^&]|&(?:lt|gt|amp|quot|apos|#[0-9]{1,8}|#x[0-9A-Fa-f]{1,8});)*$`)
	oneReference = regexp.MustCompile(`&[^;]*;`)
)

// xmlMayHave says it by the document's words.
func xmlMayHave(n int64) bool {
	return n == 9 || n == 10 || n == 13 || n >= 0x20 && n <= 0x10FFFF && n != 0xFFFE && n != 0xFFFF && (n < 0xD800 || n > 0xDFFF)
}

func xmlMayHaveAll(s string) bool {
	for _, r := range s {
		if !xmlMayHave(int64(r)) {
			return false
		}
	}
	return utf8.ValidString(s)
}

// frame is an element that the model has not ended yet.
type frame struct {
	raw    string
	node   xml.Node
	spaces map[string]string
}

// model is a second reader, made from the document's words: it cuts by regular expressions, and keeps a stack.
type model struct {
	rest  string
	stack []frame
	count int
	root  *xml.Node
}

// refused is what the model gives up with.
type refused struct{ e api.Errno }

func (m *model) need(right bool, e api.Errno) {
	if !right {
		panic(refused{e})
	}
}

func modelParse(s string) (n xml.Node, e api.Errno) {
	if len(s) > api.MaxPart {
		return n, api.ErrBig
	}
	if !xmlMayHaveAll(s) {
		return n, api.ErrText
	}
	defer func() {
		if r, ok := recover().(refused); ok {
			n, e = xml.Node{}, r.e
		}
	}()
	m := &model{rest: s}
	if needsEnd.MatchString(s) {
		m.need(declared.MatchString(s), api.ErrXml)
		m.cut(declared)
	}
	m.cut(gaps)
	for m.root == nil {
		m.step()
	}
	m.cut(gaps)
	m.need(m.rest == "", api.ErrXml)
	return *m.root, api.OK
}

// cut takes what the pattern finds off the rest, and answers its groups.
func (m *model) cut(r *regexp.Regexp) []string {
	found := r.FindStringSubmatch(m.rest)
	if found != nil {
		m.rest = m.rest[len(found[0]):]
	}
	return found
}

func (m *model) step() {
	if begins.MatchString(m.rest) {
		m.begin()
		return
	}
	m.need(len(m.stack) > 0, api.ErrXml)
	top := &m.stack[len(m.stack)-1]
	if found := m.cut(ending); found != nil {
		m.need(found[1] == top.raw, api.ErrXml)
		m.end()
	} else if found := m.cut(remark); found == nil {
		found := m.cut(plainText)
		m.need(found != nil, api.ErrXml)
		text := m.refer(strings.ReplaceAll(strings.ReplaceAll(found[0], "\r\n", "\n"), "\r", "\n"))
		if last := len(top.node.Kids) - 1; last >= 0 && top.node.Kids[last].Name == "" {
			top.node.Kids[last].Text += text
		} else {
			top.node.Kids = append(top.node.Kids, xml.Node{Text: text})
		}
	}
}

func (m *model) end() {
	n := m.stack[len(m.stack)-1].node
	m.stack = m.stack[:len(m.stack)-1]
	if len(m.stack) == 0 {
		m.root = &n
		return
	}
	top := &m.stack[len(m.stack)-1]
	top.node.Kids = append(top.node.Kids, n)
}

func (m *model) begin() {
	m.need(len(m.stack) < api.MaxXmlDeep, api.ErrDeep)
	m.need(m.count < api.MaxXmlNodes, api.ErrBig)
	m.count++
	f := frame{raw: m.cut(beginning)[1], spaces: map[string]string{"": "", "xml": xmlSpace}}
	if len(m.stack) > 0 {
		f.spaces = maps.Clone(m.stack[len(m.stack)-1].spaces)
	}
	var all [][2]string
	for nextBegins.MatchString(m.rest) {
		m.need(len(all) < api.MaxAttrs, api.ErrBig)
		found := m.cut(nextAttr)
		m.need(found != nil, api.ErrXml)
		value := strings.ReplaceAll(found[2][1:len(found[2])-1], "\r\n", " ")
		all = append(all, [2]string{found[1], m.refer(strings.NewReplacer("\t", " ", "\n", " ", "\r", " ").Replace(value))})
	}
	found := m.cut(tagEnd)
	m.need(found != nil, api.ErrXml)
	f.node.Attrs = m.spaces(f.spaces, all)
	f.node.Space, f.node.Name = m.lookUp(f.spaces, f.raw)
	m.stack = append(m.stack, f)
	if found[1] == "/>" {
		m.end()
	}
}

// spaces takes the tellings into the map, and answers the others.
func (m *model) spaces(spaces map[string]string, all [][2]string) []xml.Attr {
	seen := map[string]int{}
	for _, a := range all {
		seen[a[0]]++
		m.need(seen[a[0]] == 1, api.ErrXml)
		prefix, told := strings.CutPrefix(a[0], "xmlns:")
		if told {
			m.need(prefix != "xml" && prefix != "xmlns" && a[1] != "", api.ErrXml)
			spaces[prefix] = a[1]
		} else if a[0] == "xmlns" {
			spaces[""] = a[1]
		}
	}
	var attrs []xml.Attr
	alike := map[[2]string]int{}
	for _, a := range all {
		if a[0] == "xmlns" || strings.HasPrefix(a[0], "xmlns:") {
			continue
		}
		space, name := "", a[0]
		if strings.Contains(a[0], ":") {
			space, name = m.lookUp(spaces, a[0])
		}
		alike[[2]string{space, name}]++
		m.need(alike[[2]string{space, name}] == 1, api.ErrXml)
		attrs = append(attrs, xml.Attr{Space: space, Name: name, Value: a[1]})
	}
	return attrs
}

func (m *model) lookUp(spaces map[string]string, raw string) (space, name string) {
	prefix, name, cut := strings.Cut(raw, ":")
	if !cut {
		prefix, name = "", raw
	}
	space, told := spaces[prefix]
	m.need(told && space != xmlnsSpace, api.ErrXml)
	return space, name
}

// refer puts characters in place of the references.
func (m *model) refer(s string) string {
	m.need(allReferred.MatchString(s), api.ErrXml)
	names := map[string]string{"lt": "<", "gt": ">", "amp": "&", "quot": `"`, "apos": "'"}
	return oneReference.ReplaceAllStringFunc(s, func(r string) string {
		r = r[1 : len(r)-1]
		if c, ok := names[r]; ok {
			return c
		}
		n, err := strconv.ParseInt("0"+r[1:], 0, 64)
		if r[1] != 'x' {
			n, err = strconv.ParseInt(r[1:], 10, 64)
		}
		m.need(err == nil && xmlMayHave(n), api.ErrXml)
		return string(rune(n))
	})
}

// modelWrite is a second writer, made from the document's words, of a right element.
func modelWrite(n xml.Node, there string) string {
	value := strings.NewReplacer("&", "&amp;", "<", "&lt;", ">", "&gt;", `"`, "&quot;", "\t", "&#9;", "\n", "&#10;", "\r", "&#13;")
	if n.Name == "" {
		return strings.NewReplacer("&", "&amp;", "<", "&lt;", ">", "&gt;", "\r", "&#13;").Replace(n.Text)
	}
	s := "<" + n.Name
	if n.Space != there {
		s += fmt.Sprintf(` xmlns="%s"`, value.Replace(n.Space))
	}
	prefixes, attrs := map[string]string{"": "", xmlSpace: "xml:"}, ""
	for _, a := range n.Attrs {
		if _, ok := prefixes[a.Space]; !ok {
			prefixes[a.Space] = fmt.Sprintf("a%d:", len(prefixes)-1)
			s += fmt.Sprintf(` xmlns:%s="%s"`, strings.TrimSuffix(prefixes[a.Space], ":"), value.Replace(a.Space))
		}
		attrs += fmt.Sprintf(` %s%s="%s"`, prefixes[a.Space], a.Name, value.Replace(a.Value))
	}
	s += attrs
	if len(n.Kids) == 0 {
		return s + "/>"
	}
	s += ">"
	for _, k := range n.Kids {
		s += modelWrite(k, n.Space)
	}
	return s + "</" + n.Name + ">"
}

// against holds Parse of s against the model, and asks of what it tells all that P705 promises.
func against(t *testing.T, s string) api.Errno {
	t.Helper()
	n, e := xml.Parse(s)
	want, wantE := modelParse(s)
	if e != wantE || dump(n) != dump(want) {
		t.Fatalf("Parse(%q): %v %s, not %v %s", s, e, dump(n), wantE, dump(want))
	}
	if e == api.OK {
		back(t, s, n)
	}
	return e
}

// back asks whether n, which Parse told of s, is right or has too many Attrs or Spaces, and is the same when it is written and read again.
func back(t *testing.T, s string, n xml.Node) {
	t.Helper()
	switch e := xml.Right(n); {
	case e == api.ErrBig && crowded(n):
		if text, e := xml.Write(n); text != "" || e != api.ErrBig {
			t.Fatalf("Write of Parse(%q), whose Attrs are too many: %q %v", s, text, e)
		}
		return
	case e != api.OK || crowded(n):
		t.Fatalf("Right of Parse(%q): %v", s, e)
	}
	text, e := xml.Write(n)
	if e == api.ErrBig && len(modelWrite(n, "")) > api.MaxPart {
		return
	}
	again, e2 := xml.Parse(text)
	if e != api.OK || e2 != api.OK || dump(again) != dump(n) {
		t.Fatalf("Parse(%q), written (%v) and read again (%v): %s, not %s", s, e, e2, dump(again), dump(n))
	}
}

// crowded tells whether an element has more Attrs and Spaces than Right allows.
func crowded(n xml.Node) bool {
	spaces := map[string]int{}
	for _, a := range n.Attrs {
		if a.Space != "" && a.Space != xmlSpace {
			spaces[a.Space]++
		}
	}
	return len(spaces) > 10 || len(n.Attrs)+len(spaces) > 31 || slices.ContainsFunc(n.Kids, crowded)
}
