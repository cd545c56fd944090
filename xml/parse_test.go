package xml_test

import (
	"fmt"
	"math/rand"
	"strings"
	"testing"

	"quire/api"
	"quire/xml"
)

// text and el make nodes.
func text(s string) xml.Node { return xml.Node{Text: s} }

func el(space, name string, attrs []xml.Attr, kids ...xml.Node) xml.Node {
	return xml.Node{Space: space, Name: name, Attrs: attrs, Kids: kids}
}

// attrs makes Attrs of threes: Space, Name, Value.
func attrs(l ...string) []xml.Attr {
	var out []xml.Attr
	for i := 0; i < len(l); i += 3 {
		out = append(out, xml.Attr{Space: l[i], Name: l[i+1], Value: l[i+2]})
	}
	return out
}

type parsed struct {
	text string
	want xml.Node
}

// parses holds Parse against what each text should tell, and against the model.
func parses(t *testing.T, l ...parsed) {
	t.Helper()
	for _, c := range l {
		n, e := xml.Parse(c.text)
		if e != api.OK || dump(n) != dump(c.want) {
			t.Errorf("Parse(%q): %v %s, not %s", c.text, e, dump(n), dump(c.want))
		}
		against(t, c.text)
	}
}

// refuses asks for an error, without a node, of each text.
func refuses(t *testing.T, want api.Errno, l ...string) {
	t.Helper()
	for _, s := range l {
		n, e := xml.Parse(s)
		if e != want || dump(n) != dump(xml.Node{}) {
			t.Errorf("Parse(%.200q): %v %.200s, not %v", s, e, dump(n), want)
		}
		if _, e := modelParse(s); e != want {
			t.Errorf("the model of %.200q: %v, not %v", s, e, want)
		}
	}
}

func TestParseExamples(t *testing.T) {
	parses(t,
		parsed{`<a x="1">b&amp;c<d/></a>`, el("", "a", attrs("", "x", "1"), text("b&c"), el("", "d", nil))},
		parsed{`<p:a xmlns:p="u"/>`, el("u", "a", nil)},
	)
	refuses(t, api.ErrXml, `<a><b></a>`)
}

func TestParseDocuments(t *testing.T) {
	a := el("", "a", nil)
	for _, s := range []string{
		`<a/>`, `<a />`, "<a \t\n\r/>", `<a></a>`, "<a \n></a\r\t >", " \t\r\n<a/>\n \r\t", `<?xml ?><a/>`, `<?xml version="1.0"?><a/>`, "<?xml\t?><a/>", "<?xml\n\r?>\n<a/>", "<?xml\r?><a/>", `<?xml <a> & ? > "?><a/>`,
		`<?xml ?><!-- b --> <!----><a/><!-- <b/> & --> `, `<!----><a/>`, `<!-- --- -- > -><a><b/> -- --><a/><!---->`, `<a/><!---> --><!-- ]]> -->`, `<a><!-- </a> --></a>`, `<a><!----></a>`, `<a><!-->--></a>`, "<!---->\n<!---->\t<a/>",
	} {
		parses(t, parsed{s, a})
	}
	refuses(t, api.ErrXml,
		``, ` `, "\t\r\n ", `a`, `a<b/>`, `<!-- a -->`, `<?xml ?>`, `<?xml ?> <!---->`, `&amp;`, `&#32;<a/>`, "\u00a0<a/>", "\ufeff<a/>",
		`<a/><a/>`, `<a></a><b></b>`, `<a/>b`, `<a/>&#32;`, `<a/><`, `<a/></a>`, `<a/><?xml ?>`, `<a/><?b?>`, `<a/><!`, `<a/>>`, `<a/>/`, "<a/>\u2003",
		`<?xml?><a/>`, `<?xml`, `<?xml `, `<?xml <a/>`, `<?xml ? ><a/>`, ` <?xml ?><a/>`, `<?xml ?><?xml ?><a/>`, `<!----><?xml ?><a/>`, `<?XML ?><a/>`, `<?xmlx ?><a/>`, `<? xml ?><a/>`, `<?b ?><a/>`,
		`<!-- <a/>`, `<!-- -- ><a/>`, `<!--><a/>`, `<!---><a/>`, `<a/><!--`, `<a/><!-- --`, `<a/><!-->`, `<a/><!--->`, `<a><!-- </a>`, `<a><!--></a>`, `<a><!---></a>`, `<!- a --><a/>`, `<! ---->`, `<!----><!--<a/>`, `-->`, `--><a/>`,
		`<a><?b ?></a>`, `<!DOCTYPE a><a/>`, `<a><![CDATA[b]]></a>`, `<a><!b></a>`,
	)
	parses(t, parsed{`<a>--></a>`, el("", "a", nil, text("-->"))}, parsed{`<a>]]></a>`, el("", "a", nil, text("]]>"))})
}

func TestParseNames(t *testing.T) {
	for _, name := range []string{"a", "Z", "_", "_.-0", "aZ09._-", "a-", "a.", "a--", "xml", "xmlns", "xmlA"} {
		parses(t,
			parsed{"<" + name + "/>", el("", name, nil)},
			parsed{"<" + name + "></" + name + ">", el("", name, nil)},
			parsed{"<p:" + name + " xmlns:p='u'></p:" + name + ">", el("u", name, nil)},
			parsed{"<a xmlns:p='u' p:" + name + "='1'/>", el("", "a", attrs("u", name, "1"))},
		)
		if name != "xmlns" {
			parses(t, parsed{"<a " + name + "='1'/>", el("", "a", attrs("", name, "1"))})
		}
		if name != "xml" && name != "xmlns" {
			parses(t, parsed{"<" + name + ":a xmlns:" + name + "='u'/>", el("u", "a", nil)})
		}
	}
	for _, name := range []string{"", "0", "-", ".", "0a", "-a", ".a", ":", ":a", "a:", "p:a:b", "p::a", "p:0", "p:-", "p:.", "0:a", "a\u00f1", "\u00f1", "p:\u00f1", "a+", "a/b", "a=", "a\"", "p: a", "p :a", "p\t:a"} {
		refuses(t, api.ErrXml,
			"<"+name+" xmlns:p='u'/>",
			"<"+name+" xmlns:p='u'></"+name+">",
			"<a xmlns:p='u'><"+name+"></"+name+"></a>",
			"<a xmlns:p='u' "+name+"='1'/>",
		)
	}
}

func TestParseEnds(t *testing.T) {
	parses(t,
		parsed{"<a></a \t\n\r>", el("", "a", nil)},
		parsed{"<p:a xmlns:p='u'></p:a >", el("u", "a", nil)},
		parsed{"<a><a><a/></a></a>", el("", "a", nil, el("", "a", nil, el("", "a", nil)))},
	)
	refuses(t, api.ErrXml,
		`<a></b>`, `<a></A>`, `<a></aa>`, `<ab></a>`, `<a></ a>`, `<a>< /a>`, `<a></a`, `<a></a `, `<a></a b>`, `<a></a/>`, `<a></a x="1">`, `<a></>`, `<a></`, `<a><`, `<a>`, `<a`, `<`, `<a/`, `<a /`, `<a / >`, `<a/ >`, `<a//>`, `</a>`, `</a><a/>`,
		`<a><b></b>`, `<a><b></a></b>`, `<a><b/>`, `<a>b`, `<a>b<`, `<a></a></a>`, `<a>></a`, `<a>< b/></a>`, `<a><1/></a>`, `<a><:b/></a>`, `<a><></a>`,
		`<p:a xmlns:p="u"></a>`, `<p:a xmlns:p="u"></p:b>`, `<p:a xmlns:p="u"></p:>`, `<p:a xmlns:p="u"></:a>`, `<a xmlns:p="u"></p:a>`, `<a xmlns="u" xmlns:p="u"></p:a>`, `<p:a xmlns:p="u" xmlns:q="u"></q:a>`, `<p:a xmlns:p="u"></p:a:a>`, `<p:a xmlns:p="u"></p :a>`,
	)
}

func TestParseAttributes(t *testing.T) {
	for _, s := range []string{
		`<a x="1" y="2"/>`, `<a x='1' y="2"></a>`, "<a\tx\n=\r'1'\r\ny \t= \"2\" />", "<a x='1' y='2'\n></a>", "<a  x='&#49;'  y='&#x32;'  />",
	} {
		parses(t, parsed{s, el("", "a", attrs("", "x", "1", "", "y", "2"))})
	}
	parses(t,
		parsed{`<a x=""/>`, el("", "a", attrs("", "x", ""))},
		parsed{`<a x="'" y='"'/>`, el("", "a", attrs("", "x", "'", "", "y", `"`))},
		parsed{`<a x=">" y='/>]]>'/>`, el("", "a", attrs("", "x", ">", "", "y", "/>]]>"))},
		parsed{`<a x="!-- -->"/>`, el("", "a", attrs("", "x", "!-- -->"))},
		parsed{`<a y="1" x="2" z="3"/>`, el("", "a", attrs("", "y", "1", "", "x", "2", "", "z", "3"))},
		parsed{`<a x="1" X="2" x.="3"/>`, el("", "a", attrs("", "x", "1", "", "X", "2", "", "x.", "3"))},
		parsed{"<a x='\u00f1\u4f60\U00010000'/>", el("", "a", attrs("", "x", "\u00f1\u4f60\U00010000"))},
	)
	refuses(t, api.ErrXml,
		`<a x="1"y="2"/>`, `<a x='1'y='2'/>`, `<ax="1"/>`, `<a x="1"x="2"/>`, `<a/x="1">`, `<a x/>`, `<a x>`, `<a x =/>`, `<a x= />`, `<a x=1/>`, `<a x="1/>`, `<a x='1"/>`, `<a x="1'/>`, `<a x="1`, `<a x="`, `<a x=`, `<a x`, `<a x=""`, `<a x="" `, `<a ="1"/>`, `<a x=="1"/>`, `<a "1"/>`, `<a x="1""2"/>`, `<a x y="1"/>`, `<a x"1"/>`,
		`<a x="<"/>`, `<a x='<'/>`, `<a x="a<b"></a>`, `<a x="<!-- -->"/>`, `<a x="1" <!-- --> y="2"/>`, `<a <!-- -->/>`, `<a x=<!-- -->"1"/>`,
		`<a x="1" x="1"/>`, `<a x="1" y="2" x="3"/>`, `<a x='1' x="2"></a>`, `<a><b x="1" x="1"/></a>`, `<xml:a xml:x="1" xml:x="2"/>`,
		`<a xmlns:p="u" p:x="1" p:x="2"/>`, `<a xmlns:p="u" xmlns:q="u" p:x="1" q:x="2"/>`, `<a p:x="1" q:x="2" xmlns:p="u" xmlns:q="&#117;"/>`, `<a xmlns:p="u"><b xmlns:q="u" p:x="1" q:x="2"/></a>`, `<a xmlns:p="`+xmlSpace+`" p:x="1" xml:x="2"/>`,
		"<a\u00a0x='1'/>", `<a x="1"; y="2"/>`, `<a x="1", y="2"/>`,
	)
	parses(t,
		parsed{`<a xmlns="u" xmlns:p="u" x="1" p:x="2"/>`, el("u", "a", attrs("", "x", "1", "u", "x", "2"))},
		parsed{`<a xmlns:p="u" xmlns:q="v" p:x="1" q:x="2" p:y="3"/>`, el("", "a", attrs("u", "x", "1", "v", "x", "2", "u", "y", "3"))},
		parsed{`<a xmlns:p="u" p:x="1"><b p:x="2"/></a>`, el("", "a", attrs("u", "x", "1"), el("", "b", attrs("u", "x", "2")))},
	)
}

// both puts raw into a text and into a value, and answers what the document is when they mean this.
func both(raw, inText, inValue string) parsed {
	n := el("", "a", attrs("", "x", inValue))
	if inText != "" {
		n.Kids = []xml.Node{text(inText)}
	}
	return parsed{`<a x="` + raw + `">` + raw + `</a>`, n}
}

func TestParseReferences(t *testing.T) {
	for raw, c := range map[string]string{
		"&lt;": "<", "&gt;": ">", "&amp;": "&", "&quot;": `"`, "&apos;": "'", "&amp;lt;": "&lt;", "&amp;amp;": "&amp;", "&#38;lt;": "&lt;", "&#x26;#65;": "&#65;", "a&lt;b&gt;c": "a<b>c", "&lt;&lt;": "<<", "&lt;;": "<;",
		"&#65;": "A", "&#x41;": "A", "&#065;": "A", "&#x041;": "A", "&#00000065;": "A", "&#x00000041;": "A", "&#9;": "\t", "&#10;": "\n", "&#13;": "\r", "&#xa;": "\n", "&#xA;": "\n", "&#xd;&#xA;": "\r\n", "&#x0009;": "\t", "&#32;": " ", "&#x20;": " ",
		"&#xF1;": "\u00f1", "&#xf1;": "\u00f1", "&#xD7FF;": "\ud7ff", "&#xE000;": "\ue000", "&#xFFFD;": "\ufffd", "&#65533;": "\ufffd", "&#x10000;": "\U00010000", "&#x1FFFE;": "\U0001fffe", "&#x10FFFF;": "\U0010ffff", "&#1114111;": "\U0010ffff", "&#x0010fffF;": "\U0010ffff", "&#127;": "\x7f", "&#x80;": "\u0080",
	} {
		parses(t, both(raw, c, c), both("a"+raw+" ", "a"+c+" ", "a"+c+" "))
	}
	for _, raw := range []string{
		"&", "&;", "& ", "&lt", "&lt ", "&lt ;", "& lt;", "&Lt;", "&LT;", "&nbsp;", "&l;", "&ltt;", "&amp", "&apo;", "&a;", "&&", "&&amp;", "&amp;&", "&quot", "&lt&gt;", "a&", "&lt,",
		"&#", "&#;", "&#x", "&#x;", "&#X41;", "&#a;", "&#xg;", "&#xG;", "&#x 41;", "&# 65;", "&#65", "&#x41", "&#65 ;", "&#-65;", "&#+65;", "&#6_5;", "&#x4_1;", "&#6.5;", "&#0x41;", "&#x0x41;", "&#65&#65;", "&x41;", "&65;", "&#65a;", "&##65;", "&#1e1;",
		"&#0;", "&#x0;", "&#00000000;", "&#8;", "&#11;", "&#12;", "&#14;", "&#31;", "&#x1F;", "&#xD800;", "&#xDBFF;", "&#xDC00;", "&#xDFFF;", "&#xD83D;&#xDE00;", "&#xFFFE;", "&#xFFFF;", "&#65534;", "&#65535;", "&#x110000;", "&#1114112;", "&#99999999;", "&#xFFFFFFFF;", "&#x80000041;", "&#x7FFFFFFF;",
		"&#000000065;", "&#x000000041;", "&#100000065;", "&#x100000041;", "&#4294967361;", "&#18446744073709551681;", "&#\u0666\u0665;", "&#\uff16\uff15;",
	} {
		refuses(t, api.ErrXml, "<a>"+raw+"</a>", "<a x='"+raw+"'/>", "<a><b/>"+raw+"<b/></a>", "<a xmlns='"+raw+"'/>", "<a>"+raw+" <b/></a>")
	}
	refuses(t, api.ErrXml, `<a>&am<!-- -->p;</a>`, `<a>&<b/>amp;</a>`, `<a>&#6<!---->5;</a>`, `<a&#32;x="1"/>`, `<&#97;/>`, `<a x=&quot;1&quot;/>`, `<a x="1&quot;/>`, `<a>&lt;/a>`)
}

func TestParseLines(t *testing.T) {
	parses(t,
		both("\t", "\t", " "), both("\n", "\n", " "), both("\r", "\n", " "), both("\r\n", "\n", " "), both("\n\r", "\n\n", "  "), both("\r\r\n", "\n\n", "  "), both("\r\n\n", "\n\n", "  "), both("\r\n\r\n", "\n\n", "  "), both("\t\t", "\t\t", "  "), both(" ", " ", " "), both("a\r\nb\rc\nd\te", "a\nb\nc\nd\te", "a b c d e"),
		both("&#13;", "\r", "\r"), both("&#13;\n", "\r\n", "\r "), both("\r&#10;", "\n\n", " \n"), both("&#13;&#10;", "\r\n", "\r\n"), both("&#10;&#9;", "\n\t", "\n\t"), both("&#13;\r\n&#10;", "\r\n\n", "\r \n"), both("\r&#13;\n", "\n\r\n", " \r "), both("\u0085\u2028", "\u0085\u2028", "\u0085\u2028"),
		parsed{"<a>\r<!-- -->\n</a>", el("", "a", nil, text("\n\n"))},
		parsed{"<a>\r<b/>\n</a>", el("", "a", nil, text("\n"), el("", "b", nil), text("\n"))},
		parsed{"<a xmlns='u\r\nv' xmlns:p='w&#13;\t'><p:b/></a>", el("u v", "a", nil, el("w\r ", "b", nil))},
	)
}

func TestParseTexts(t *testing.T) {
	b := el("", "b", nil)
	parses(t,
		parsed{"<a>b<!-- c -->d</a>", el("", "a", nil, text("bd"))},
		parsed{"<a>b<!-- c --><!----><!-- <e/> -->d</a>", el("", "a", nil, text("bd"))},
		parsed{"<a><!-- c -->b<!----></a>", el("", "a", nil, text("b"))},
		parsed{"<a>&lt;<!---->&gt;</a>", el("", "a", nil, text("<>"))},
		parsed{"<a><b/><b/></a>", el("", "a", nil, b, b)},
		parsed{"<a><b/><!-- --><b/></a>", el("", "a", nil, b, b)},
		parsed{"<a>c<b/>d<b/>e</a>", el("", "a", nil, text("c"), b, text("d"), b, text("e"))},
		parsed{"<a><!---->c<b/><!---->d<!---->e<b/></a>", el("", "a", nil, text("c"), b, text("de"), b)},
		parsed{"<a> <b/>\n</a>", el("", "a", nil, text(" "), b, text("\n"))},
		parsed{"<a> </a>", el("", "a", nil, text(" "))},
		parsed{"<a>\"'>=/ -->]]>;#</a>", el("", "a", nil, text("\"'>=/ -->]]>;#"))},
		parsed{"<a>\u00f1\u4f60\U00010000\ufffd\x7f</a>", el("", "a", nil, text("\u00f1\u4f60\U00010000\ufffd\x7f"))},
		parsed{"<a>c<b>d<e>f</e>g</b>h</a>", el("", "a", nil, text("c"), el("", "b", nil, text("d"), el("", "e", nil, text("f")), text("g")), text("h"))},
	)
}

func TestParseNamespaces(t *testing.T) {
	parses(t,
		parsed{`<a xmlns="u"><b/></a>`, el("u", "a", nil, el("u", "b", nil))},
		parsed{`<a><b xmlns="u"><c/></b><d/></a>`, el("", "a", nil, el("u", "b", nil, el("u", "c", nil)), el("", "d", nil))},
		parsed{`<a xmlns="u"><b xmlns="v"><c/></b><d/></a>`, el("u", "a", nil, el("v", "b", nil, el("v", "c", nil)), el("u", "d", nil))},
		parsed{`<a xmlns="u"><b xmlns=""><c/></b><d/></a>`, el("u", "a", nil, el("", "b", nil, el("", "c", nil)), el("u", "d", nil))},
		parsed{`<a xmlns=""/>`, el("", "a", nil)},
		parsed{`<a xmlns="u" x="1"/>`, el("u", "a", attrs("", "x", "1"))},
		parsed{`<p:a xmlns:p="u"><b/><p:c p:x="1" x="2"/></p:a>`, el("u", "a", nil, el("", "b", nil), el("u", "c", attrs("u", "x", "1", "", "x", "2")))},
		parsed{`<p:a xmlns:p="u"><p:b xmlns:p="v"><p:c/></p:b><p:d/></p:a>`, el("u", "a", nil, el("v", "b", nil, el("v", "c", nil)), el("u", "d", nil))},
		parsed{`<a xmlns:p="u"><b xmlns:q="v"><q:c/><p:d/></b></a>`, el("", "a", nil, el("", "b", nil, el("v", "c", nil), el("u", "d", nil)))},
		parsed{`<p:a p:x="1" xmlns:p="u"/>`, el("u", "a", attrs("u", "x", "1"))},
		parsed{`<a xmlns="u" xmlns:p="v" xmlns:q="v"><p:b/><q:b/></a>`, el("u", "a", nil, el("v", "b", nil), el("v", "b", nil))},
		parsed{`<a xmlns="&lt;&#9;"/>`, el("<\t", "a", nil)},
		parsed{`<a xml:lang="e"/>`, el("", "a", attrs(xmlSpace, "lang", "e"))},
		parsed{`<xml:a/>`, el(xmlSpace, "a", nil)},
		parsed{`<xml:a xmlns="u"><b/></xml:a>`, el(xmlSpace, "a", nil, el("u", "b", nil))},
		parsed{`<a xmlns="` + xmlSpace + `"/>`, el(xmlSpace, "a", nil)},
		parsed{`<a xmlns:p="` + xmlSpace + `" p:x="1"/>`, el("", "a", attrs(xmlSpace, "x", "1"))},
		parsed{`<xmlns/>`, el("", "xmlns", nil)},
		parsed{`<a xml="1"/>`, el("", "a", attrs("", "xml", "1"))},
		parsed{`<a xml:xmlns="1"/>`, el("", "a", attrs(xmlSpace, "xmlns", "1"))},
		parsed{`<a xmlns:p="u" p:xmlns="1" p:xml="2"/>`, el("", "a", attrs("u", "xmlns", "1", "u", "xml", "2"))},
		parsed{`<a xmlns:p="xmlns" xmlns:q="xml" p:x="1" q:x="2" xml:x="3"/>`, el("", "a", attrs("xmlns", "x", "1", "xml", "x", "2", xmlSpace, "x", "3"))},
		parsed{`<a xmlns:xmlnsx="u" xmlns:xmla="v" xmlns:XML="w"><xmlnsx:b/><xmla:b/><XML:b/></a>`, el("", "a", nil, el("u", "b", nil), el("v", "b", nil), el("w", "b", nil))},
		parsed{`<a xmlns:p="` + xmlnsSpace + `"/>`, el("", "a", nil)},
	)
	refuses(t, api.ErrXml,
		`<p:a/>`, `<a p:x="1"/>`, `<a><p:b/></a>`, `<p:a xmlns:q="u"/>`, `<p:a xmlns="u"/>`, `<P:a xmlns:p="u"/>`, `<a><b xmlns:p="u"/><p:c/></a>`, `<a><b xmlns:p="u"></b><c p:x="1"/></a>`, `<a><p:b><c xmlns:p="u"/></p:b></a>`,
		`<a xmlns="u" xmlns="u"/>`, `<a xmlns="u" xmlns="v"/>`, `<a xmlns="" xmlns=""/>`, `<a xmlns:p="u" xmlns:p="v"/>`, `<a xmlns:p="u" x="1" xmlns:p="u"/>`, `<a><b xmlns="u" x="1" xmlns="u"/></a>`,
		`<a xmlns:p=""/>`, `<a xmlns:p="u"><b xmlns:p=""/></a>`,
		`<a xmlns:xml="u"/>`, `<a xmlns:xml="`+xmlSpace+`"/>`, `<a xmlns:xml=""/>`, `<a xmlns:xmlns="u"/>`, `<a xmlns:xmlns="`+xmlnsSpace+`"/>`, `<xmlns:a/>`, `<a><xmlns:b/></a>`, `<a xmlns:="u"/>`, `<a xmlns:p:q="u"/>`, `<a :xmlns="u"/>`,
		`<a xmlns:p="`+xmlnsSpace+`" p:x="1"/>`, `<p:a xmlns:p="`+xmlnsSpace+`"/>`, `<a xmlns="`+xmlnsSpace+`"/>`, `<a><b xmlns="`+xmlnsSpace+`"/></a>`,
	)
}

// nest is so many elements within one another, with something in the innermost one.
func nest(n int, inner string) string {
	return strings.Repeat("<a>", n) + inner + strings.Repeat("</a>", n)
}

func TestParseDeep(t *testing.T) {
	for _, s := range []string{nest(32, ""), nest(32, "b<!-- <c> -->&lt;"), nest(31, "<b/><c>d</c><e/>"), nest(31, "<a/>") + "<!-- <b> -->"} {
		if e := against(t, s); e != api.OK {
			t.Errorf("Parse(%q): %v", s, e)
		}
	}
	refuses(t, api.ErrDeep,
		nest(33, ""), nest(32, "<a/>"), nest(32, "b<_/>"), nest(32, "<!-- --><p:a/>"), strings.Repeat("<a>", 32)+"<a", strings.Repeat("<a>", 32)+"<_", strings.Repeat("<a>", 32)+"<Z:", nest(32, "<a x='1' x='1'>"), nest(200, ""), strings.Repeat("<a>", 50000), nest(31, "<b></b><c><d/></c>"),
		nest(32, "<a "+attributes(33)+"/>"), nest(32, "<a/>&bad;"), nest(32, "<a/>")+"b",
		strings.Repeat("<a>", 32)+"<a>\r",
	)
	refuses(t, api.ErrXml, nest(32, "<1/>"), nest(32, "< a/>"), nest(32, "<:a/>"), nest(32, "<\u00f1/>"), nest(32, "&bad;<a/>"), nest(31, "<a x='1' x='1'><a/></a>"), nest(31, "<p:a><a/></p:a>"), strings.Repeat("<a>", 32)+"<", nest(32, "")+"<a>", nest(32, "<!a>"), nest(32, "</b>"))
}

// attributes is n attributes, a blank ahead of each but the first.
func attributes(n int) string {
	var l []string
	for i := range n {
		l = append(l, fmt.Sprintf("x%d='%d'", i, i))
	}
	return strings.Join(l, " ")
}

func TestParseManyAttributes(t *testing.T) {
	for _, s := range []string{
		"<a " + attributes(32) + "/>", "<a " + attributes(32) + " \n/>", "<a " + attributes(32) + "\t></a >", "<a " + attributes(31) + " xmlns='u'/>", "<a xmlns='u' xmlns:p='v' " + attributes(30) + "/>", "<a " + attributes(32) + "><b " + attributes(32) + "/><c " + attributes(32) + "/></a>",
	} {
		if e := against(t, s); e != api.OK {
			t.Errorf("Parse(%q): %v", s, e)
		}
	}
	n, _ := xml.Parse("<a " + attributes(32) + "/>")
	if len(n.Attrs) != 32 || n.Attrs[31] != (xml.Attr{Name: "x31", Value: "31"}) {
		t.Errorf("32 attributes: %s", dump(n))
	}
	full := "<a " + attributes(32)
	refuses(t, api.ErrBig,
		"<a "+attributes(33)+"/>", full+" xmlns='u'/>", full+" xmlns:p='u'/>", "<a xmlns='u' "+attributes(32)+"/>", full+" y", full+"\n_", full+" y=<", full+" y=1/>", full+" y:/>", "<a xmlns:p='u' "+attributes(31)+" p:y='1'/>", "<a>"+full+" y=''/></a>", full+" x0='1'/>",
		"<p:a "+attributes(33)+"/>", "<a p:y='1' "+attributes(32)+"/>", "<a x0='1' "+attributes(32)+"/>", "<a xmlns='u' xmlns='v' "+attributes(31)+"/>", "<a xmlns:xml='u' "+attributes(32)+"/>", "<a xmlns:p='' "+attributes(32)+"/>", "<a xmlns:xmlns='u' "+attributes(40)+"/>",
	)
	refuses(t, api.ErrXml, full+"y='1'/>", full+" 1='1'/>", full+" :y='1'/>", full+" ='1'/>", full+" /", full, full+" ", full+" \u00f1=''/>", "<a y='&bad;' "+attributes(33)+"/>", "<a y "+attributes(33)+"/>", "<a y='<' "+attributes(33)+"/>", "<a:: "+attributes(33)+"/>", "<a y=1 "+attributes(33)+"/>", "<a/><b "+attributes(33)+"/>", "<a y='1'"+attributes(33)+"/>", "<a x0='1' "+attributes(31)+"/>")
}

func TestParseManyElements(t *testing.T) {
	few := strings.Repeat("<b/>", 19999)
	for _, s := range []string{"<a>" + few + "</a>", "<a><b>" + few[4:] + "c</b></a><!-- <d/> -->", "<a>" + few[4:] + "<b></b><!-- <b/> -->b</a>"} {
		if e := against(t, s); e != api.OK {
			t.Errorf("Parse of 20000 elements: %v", e)
		}
	}
	refuses(t, api.ErrBig, "<a>"+few+"<b/></a>", "<a>"+few+"<b", "<a>"+few+"<_:", "<a>"+few+"<b "+attributes(33), "<a>"+few+"<b/>&bad;", "<a>"+few+"c<!-- --><b/></c>", "<a><a>"+few+"</a></a>", "<a>"+few+"<p:b/></a>")
	refuses(t, api.ErrXml, "<a>"+few+"</a><b/>", "<a>"+few+"<1/>", "<a>"+few+"</b>", "<a>"+few+"&bad;<b/></a>", "<a>"+few+"<!b/></a>", "<a>"+few[:len(few)-4]+"<p:b/><c/></a>", nest(32, "")+strings.Repeat("<a/>", 20000))
	deep := "<a>" + strings.Repeat("<b/>", api.MaxXmlNodes-32) + strings.Repeat("<a>", 31)
	if e := against(t, deep+strings.Repeat("</a>", 32)); e != api.OK {
		t.Errorf("Parse of 20000 elements, 32 deep: %v", e)
	}
	refuses(t, api.ErrDeep, deep+"<a/>", deep+"<b", deep+"b<c "+attributes(33))
	refuses(t, api.ErrBig, deep+"</a><a/>")
}

func TestParseSizes(t *testing.T) {
	room := strings.Repeat("b", api.MaxPart-len("<a></a>"))
	for _, s := range []string{"<a>" + room + "</a>", "<a>" + room[7:] + "<!----></a>", "<a/>" + strings.Repeat(" ", api.MaxPart-4), "<a x='" + room[2:] + "'/>"} {
		n, e := xml.Parse(s)
		if len(s) != api.MaxPart || e != api.OK {
			t.Fatalf("Parse of %d bytes: %v", len(s), e)
		}
		back(t, s[:20], n)
		refuses(t, api.ErrBig, s+" ", s+"<", s+"\xff", s+s)
	}
	big := strings.Repeat("<", api.MaxPart)
	refuses(t, api.ErrXml, big)
	refuses(t, api.ErrBig, big+"<", strings.Repeat("\xff", api.MaxPart+1), strings.Repeat(" ", api.MaxPart+1))
	refuses(t, api.ErrText, strings.Repeat("\xff", api.MaxPart), "<a>"+room[:len(room)-1]+"\xff</a>", big[1:]+"\x00")
}

func TestParseText(t *testing.T) {
	for _, c := range []string{"\x00", "\x01", "\x08", "\x0b", "\x0c", "\x0e", "\x1f", "\ufffe", "\uffff", "\xff", "\xc0\x80", "\xed\xa0\x80", "\xf4\x90\x80\x80", "\xe4\xbd"} {
		refuses(t, api.ErrText, c, "<a>"+c+"</a>", "<a x='"+c+"'/>", "<"+c+"/>", "<a/><!--"+c+"-->", "<a/>"+c, "<?xml "+c+"?><a/>", "<<<"+c, nest(33, "")+c, "<a "+attributes(33)+"/>"+c, "&"+c)
	}
}

func TestParseShares(t *testing.T) {
	s := "<a x='1' y='2'>b<c z='3'>d</c>e<f/><g><h/><i/></g></a>"
	n, _ := xml.Parse(s)
	want := dump(n)
	fillSpare(n)
	if dump(n) != want {
		t.Errorf("lists of one answer share their room: %s", dump(n))
	}
	scratch(n)
	if again, _ := xml.Parse(s); dump(again) != want {
		t.Errorf("Parse, once an earlier answer was written into: %s", dump(again))
	}
}

// fillSpare writes into the spare room of each list of n.
func fillSpare(n xml.Node) {
	for _, k := range n.Kids {
		fillSpare(k)
	}
	for i := len(n.Kids); i < cap(n.Kids); i++ {
		n.Kids[:cap(n.Kids)][i] = text("spare")
	}
	for i := len(n.Attrs); i < cap(n.Attrs); i++ {
		n.Attrs[:cap(n.Attrs)][i] = xml.Attr{Value: "spare"}
	}
}

// scratch writes over all lists of n.
func scratch(n xml.Node) {
	for i, k := range n.Kids {
		scratch(k)
		n.Kids[i] = text("scratched")
	}
	for i := range n.Attrs {
		n.Attrs[i].Value = "scratched"
	}
}

// fragments are what documents are made of, and what is not quite that.
var fragments = []string{"<a", "<b", "<p:a", "</a", "</a>", "</b>", ">", "/>", "/", "<", " ", "\r\n", "\t", "x", "y", "p:x", "=", "'", "\"", "'1'", "\"2\"", " x='1'", " y=\"2\"", " p:x='3'", " q:x=''", " xmlns='u'", " xmlns=''", " xmlns:p='u'", " xmlns:q=\"u\"", " xmlns:q='v'", " xml:x='4'", " xmlns:xml='u'", "<!--", "-->", "--", "<!-- r -->", "<?xml ", "?>", "&", "&lt;", "&amp;", "&#65;", "&#x", "41;", ";", "#", "text", "\r", "\n", "]]>", "\u00f1", ":", "<a>", "<b/>", "<a x='1'>", "1", "-", ".", "_"}

func TestParseOfAllShortDocuments(t *testing.T) {
	few := []string{"<a", ">", "/>", "</a>", " ", "x='1'", "<!--", "-->", "b", "&lt;", "&", " xmlns='u'"}
	right := 0
	var grow func(s string, left int)
	grow = func(s string, left int) {
		if against(t, s) == api.OK {
			right++
		}
		if left > 0 {
			for _, f := range few {
				grow(s+f, left-1)
			}
		}
	}
	grow("", 5)
	if right < 100 {
		t.Errorf("only %d of these were right", right)
	}
}

func TestParseOfFragments(t *testing.T) {
	r := rand.New(rand.NewSource(7))
	for range 60000 {
		s := ""
		for range 1 + r.Intn(12) {
			s += fragments[r.Intn(len(fragments))]
		}
		against(t, s)
		against(t, "<a>"+s+"</a>")
		against(t, "<a "+s+"/>")
	}
}

func TestParseOfAnyDocuments(t *testing.T) {
	r := rand.New(rand.NewSource(70))
	seen := map[api.Errno]int{}
	for range 15000 {
		s := anyDocument(r)
		seen[against(t, s)]++
		for range 2 {
			seen[against(t, spoilt(r, s))]++
		}
	}
	if seen[api.OK] < 5000 || seen[api.ErrXml] < 5000 {
		t.Errorf("answers: %v", seen)
	}
}

// spoilt is s with a piece taken out, put in, or doubled.
func spoilt(r *rand.Rand, s string) string {
	at := r.Intn(len(s) + 1)
	end := min(len(s), at+r.Intn(4))
	switch r.Intn(4) {
	case 0:
		return s[:at] + s[end:]
	case 1:
		return s[:end] + s[at:]
	case 2:
		return s[:at] + fragments[r.Intn(len(fragments))] + s[end:]
	}
	return s[:at] + fragments[r.Intn(len(fragments))] + s[at:]
}

func oneOf(r *rand.Rand, l ...string) string { return l[r.Intn(len(l))] }

// anyDocument is one that is most often right.
func anyDocument(r *rand.Rand) string {
	gap := func() string { return oneOf(r, "", "", " ", "\r\n", "<!-- -- <a> -->", "\t<!---->\n") }
	return oneOf(r, "", "", "<?xml version='1.0'?>", "<?xml\t?>") + gap() + anyElement(r, 1+r.Intn(4)) + gap()
}

func anyElement(r *rand.Rand, deep int) string {
	name := oneOf(r, "a", "b", "p:a", "q:b", "xml:c", "_.-", "a")
	s := "<" + name
	seen := map[string]int{}
	for range r.Intn(6) {
		attr := oneOf(r, "x", "y", "z", "p:x", "q:y", "xml:z", "xmlns", "xmlns:p", "xmlns:q")
		if seen[attr]++; seen[attr] > 1 && r.Intn(20) > 0 {
			continue
		}
		s += oneOf(r, " ", "\n", " \t") + attr + oneOf(r, "=", " = ", "\r=") + anyValue(r, strings.HasPrefix(attr, "xmlns"))
	}
	for _, attr := range []string{"xmlns:p", "xmlns:q"} { // told most often, so that most documents are right
		if seen[attr] == 0 && r.Intn(20) > 0 {
			s += " " + attr + "=" + anyValue(r, true)
		}
	}
	if r.Intn(4) == 0 {
		return s + oneOf(r, "/>", " />")
	}
	s += oneOf(r, ">", "\n>")
	for range r.Intn(5) {
		switch k := r.Intn(5); {
		case k < 2 && deep > 0:
			s += anyElement(r, deep-1)
		case k == 2:
			s += oneOf(r, "<!---->", "<!-- & < -->", "<!--\r-->")
		default:
			s += oneOf(r, "t", " ", "\r\n", "\r", "\n", "&lt;", "&#13;", "&#x4f60;", "]]>", "\u00f1", "\"'>", "&amp;lt;")
		}
	}
	return s + "</" + name + oneOf(r, ">", " >")
}

func anyValue(r *rand.Rand, space bool) string {
	s := oneOf(r, "u", "v", "w", "u", xmlSpace, "&#117;", "u\r\nv", "u v")
	if !space {
		s = oneOf(r, "", "1", "&quot;", "&apos;", "\t\r\n", "&#9;&#xA;", "a > b", "&amp;amp;", "\u4f60")
	}
	mark := oneOf(r, "'", "\"")
	return mark + s + mark
}
