package xml_test

import (
	stdxml "encoding/xml"
	"fmt"
	"io"
	"math/rand"
	"slices"
	"strings"
	"testing"

	"quire/api"
	"quire/xml"
)

// rightIs asks for Right's answer, and for the same of Write, if it is an error.
func rightIs(t *testing.T, what string, n xml.Node, want api.Errno) {
	t.Helper()
	if got := xml.Right(n); got != want {
		t.Errorf("Right of %s: %v, not %v", what, got, want)
	}
	if s, e := xml.Write(n); want != api.OK && (s != "" || e != want) {
		t.Errorf("Write of %s: %.100q %v, not %v", what, s, e, want)
	}
}

// chain is so many elements within one another, with something in the innermost one.
func chain(n int, kids ...xml.Node) xml.Node {
	out := el("", "a", nil, kids...)
	for range n - 1 {
		out = el("", "a", nil, out)
	}
	return out
}

// flock is so many elements.
func flock(n int) []xml.Node { return slices.Repeat([]xml.Node{el("", "b", nil)}, n) }

// spaced is so many Attrs, the first ones in so many unlike Spaces.
func spaced(n, spaces int) []xml.Attr {
	var l []xml.Attr
	for i := range n {
		a := xml.Attr{Name: fmt.Sprintf("x%d", i), Value: "v"}
		if i < spaces {
			a.Space = fmt.Sprintf("s%d", i)
		}
		l = append(l, a)
	}
	return l
}

// fault is something that makes an element wrong: nodes to stand in it.
type fault struct {
	what string
	e    api.Errno
	kids []xml.Node
}

// faults are all that Right names, in its order.
func faults() []fault {
	b := func(l ...string) []xml.Node { return []xml.Node{el("", "b", attrs(l...))} }
	return []fault{
		{"a node that is nothing", api.ErrArg, []xml.Node{{}}},
		{"an empty text", api.ErrArg, []xml.Node{text("")}},
		{"two texts", api.ErrArg, []xml.Node{el("", "b", nil, text("c"), text("d"))}},
		{"a text with an Attr", api.ErrArg, []xml.Node{{Text: "b", Attrs: attrs("", "x", "1")}}},
		{"an element with a Text", api.ErrArg, []xml.Node{{Name: "b", Text: "c"}}},
		{"an element too deep", api.ErrDeep, []xml.Node{chain(32)}},
		{"many elements", api.ErrBig, flock(20000)},
		{"many Attrs", api.ErrBig, []xml.Node{el("", "b", spaced(32, 0))}},
		{"many Spaces", api.ErrBig, []xml.Node{el("", "b", spaced(11, 11))}},
		{"Attrs and Spaces together", api.ErrBig, []xml.Node{el("", "b", spaced(30, 2))}},
		{"a Name", api.ErrName, []xml.Node{el("", "1", nil)}},
		{"an Attr's Name", api.ErrName, b("", "x:y", "1")},
		{"an Attr xmlns", api.ErrName, b("", "xmlns", "u")},
		{"the Space of xmlns", api.ErrName, []xml.Node{el(xmlnsSpace, "b", nil)}},
		{"an Attr's Space of xmlns", api.ErrName, b(xmlnsSpace, "x", "1")},
		{"a Space", api.ErrText, []xml.Node{el("\xff", "b", nil)}},
		{"an Attr's Space", api.ErrText, b("\x00", "x", "1")},
		{"a Value", api.ErrText, b("", "x", "\ufffe")},
		{"a Text", api.ErrText, []xml.Node{el("", "b", nil, text("\x0b"))}},
		{"two Attrs", api.ErrTwice, b("", "x", "1", "", "x", "2")},
		{"two Attrs in a Space", api.ErrTwice, b("u", "x", "1", "v", "x", "2", "u", "x", "1")},
	}
}

func TestRightOfEachTwoFaults(t *testing.T) {
	b := el("", "b", nil)
	l := faults()
	for i, f := range l {
		rightIs(t, f.what, el("", "a", nil, f.kids...), f.e)
		rightIs(t, f.what+" among others", el("u", "a", attrs("", "x", "1"), slices.Concat([]xml.Node{text("c"), b}, f.kids, []xml.Node{b, text("d")})...), f.e)
		for _, g := range l[i:] {
			rightIs(t, f.what+" ahead of "+g.what, el("", "a", nil, slices.Concat(f.kids, []xml.Node{b}, g.kids)...), f.e)
			rightIs(t, f.what+" behind "+g.what, el("", "a", nil, slices.Concat(g.kids, []xml.Node{b}, f.kids)...), f.e)
		}
	}
}

func TestRightOfFaultsInOneElement(t *testing.T) {
	twice := attrs("", "x", "1", "", "x", "2")
	for _, c := range []struct {
		what string
		n    xml.Node
		want api.Errno
	}{
		{"twice", el("", "a", twice), api.ErrTwice},
		{"twice and a Value", el("", "a", attrs("", "x", "1", "", "x", "\xff")), api.ErrText},
		{"twice and a Space", el("\xff", "a", twice), api.ErrText},
		{"twice, a Space and a Name", el("\xff", "1", twice), api.ErrName},
		{"a Name that XML may not have", el("", "\xff", nil), api.ErrName},
		{"twice xmlns", el("", "a", attrs("", "xmlns", "1", "", "xmlns", "2")), api.ErrName},
		{"twice no name", el("", "a", attrs("", "", "1", "", "", "2")), api.ErrName},
		{"many Attrs, all alike and without a name", el("\xff", "1", slices.Repeat(attrs("\xff", "", "\xff"), 32)), api.ErrBig},
		{"the same, and a text of two", el("\xff", "1", slices.Repeat(attrs("\xff", "", "\xff"), 32), text("\xff"), text("\xff")), api.ErrArg},
		{"the same, with a Text", xml.Node{Space: "\xff", Name: "1", Attrs: slices.Repeat(attrs("\xff", "", "\xff"), 32), Text: "b"}, api.ErrArg},
	} {
		rightIs(t, c.what, c.n, c.want)
		rightIs(t, c.what+", within another", el("", "a", nil, el("", "b", nil), c.n), c.want)
	}
}

func TestRightOfNodes(t *testing.T) {
	for _, n := range []xml.Node{
		{}, text("a"), text(""), {Space: "u"}, {Name: "a", Text: "b"}, {Attrs: attrs("", "x", "1")}, {Kids: []xml.Node{el("", "a", nil)}}, {Kids: []xml.Node{text("a")}}, {Space: "u", Text: "a"}, {Kids: []xml.Node{text("a")}, Text: "a"}, {Attrs: attrs("", "x", "1"), Text: "a"},
	} {
		rightIs(t, dump(n)+" alone", n, api.ErrArg)
		if n.Text != "a" || len(n.Attrs) > 0 || len(n.Kids) > 0 || n.Space != "" {
			rightIs(t, dump(n)+" within", el("", "a", nil, n), api.ErrArg)
			rightIs(t, dump(n)+" deep", chain(20, el("", "b", nil), n, text("c")), api.ErrArg)
			rightIs(t, dump(n)+" too deep", chain(40, n), api.ErrArg)
		}
	}
	b := el("", "b", nil)
	for _, n := range []xml.Node{
		el("", "a", nil), el("u", "a", nil), el(xmlSpace, "a", nil), el("", "xmlns", nil), el("", "a", []xml.Attr{}, []xml.Node{}...), el("", "a", nil, text("b")), el("", "a", nil, text(" "), b, text("\r"), b, b, text("c")), {Name: "a", Kids: []xml.Node{{Text: "b", Kids: []xml.Node{}, Attrs: []xml.Attr{}}}},
		el("xmlns", "a", attrs("", "xml", "1", "u", "xmlns", "2", xmlSpace, "xmlns", "3", "xml", "x", "4", "xmlns", "x", "5", "http://www.w3.org/2000/xmlns", "x", "6")),
		el(" \t\r\n\u00f1\ufffd\U0010ffff", "a", attrs("<>&\"'", "x", "<>&\"'\t\r\n\x7f")),
	} {
		rightIs(t, dump(n), n, api.OK)
	}
	for _, l := range [][]xml.Node{{text("b"), text("c")}, {b, text("b"), text("c")}, {text("b"), text("c"), b}, {text("b"), b, text("c"), text("d")}, {text("b"), text("")}, {text(""), b}} {
		rightIs(t, "texts", el("", "a", nil, l...), api.ErrArg)
		rightIs(t, "texts within", chain(5, el("", "a", nil, l...)), api.ErrArg)
	}
}

func TestRightAtTheLimits(t *testing.T) {
	rightIs(t, "32 deep", chain(32), api.OK)
	rightIs(t, "32 deep with a text", chain(32, text("b")), api.OK)
	rightIs(t, "31 deep with more", chain(31, el("", "b", nil), text("c"), el("", "d", nil)), api.OK)
	rightIs(t, "33 deep", chain(33), api.ErrDeep)
	rightIs(t, "33 deep behind others", chain(31, el("", "b", nil), chain(2)), api.ErrDeep)
	rightIs(t, "65536 deep", chain(65536), api.ErrDeep)
	rightIs(t, "65536 deep, and an empty text there", chain(65536, text("")), api.ErrArg)
	rightIs(t, "20000 elements", el("", "a", nil, flock(19999)...), api.OK)
	rightIs(t, "20000 elements and texts", el("", "a", nil, slices.Repeat([]xml.Node{el("", "b", nil), text("c")}, 19999)...), api.OK)
	rightIs(t, "20001 elements", el("", "a", nil, flock(20000)...), api.ErrBig)
	rightIs(t, "20001 elements, deeper", chain(20, flock(19981)...), api.ErrBig)
	rightIs(t, "20000 elements, deeper", chain(20, flock(19980)...), api.OK)
	for _, c := range []struct {
		attrs, spaces int
		want          api.Errno
	}{
		{31, 0, api.OK}, {32, 0, api.ErrBig}, {30, 1, api.OK}, {31, 1, api.ErrBig}, {30, 2, api.ErrBig}, {21, 10, api.OK}, {22, 10, api.ErrBig}, {21, 11, api.ErrBig}, {20, 11, api.ErrBig}, {10, 10, api.OK}, {11, 11, api.ErrBig}, {11, 10, api.OK}, {100, 100, api.ErrBig}, {15, 15, api.ErrBig}, {16, 16, api.ErrBig}, {70000, 70000, api.ErrBig},
	} {
		what := fmt.Sprintf("%d Attrs in %d Spaces", c.attrs, c.spaces)
		rightIs(t, what, el("", "a", spaced(c.attrs, c.spaces)), c.want)
		rightIs(t, what+", in a Space", el("u", "a", spaced(c.attrs, c.spaces)), c.want)
		rightIs(t, what+", within", chain(3, text("b"), el("s0", "a", spaced(c.attrs, c.spaces))), c.want)
	}
	xmls := spaced(31, 0)
	for i := range xmls {
		xmls[i].Space = xmlSpace
	}
	rightIs(t, "31 Attrs in the XML namespace", el("", "a", xmls), api.OK)
	xmls[0].Space = ""
	rightIs(t, "30 and 1 without a Space", el("", "a", xmls), api.OK)
	xmls[0].Space = "u"
	rightIs(t, "30 and 1 in another Space", el("", "a", xmls), api.ErrBig)
	same := spaced(30, 0)
	for i := range same {
		same[i].Space = "u"
	}
	rightIs(t, "30 Attrs in one Space", el("", "a", same), api.OK)
	rightIs(t, "10 Spaces in each of two", el("", "a", spaced(10, 10), el("", "b", spaced(10, 10)), el("v", "b", spaced(21, 10))), api.OK)
}

func TestRightOfNamesAndTexts(t *testing.T) {
	for _, name := range []string{"0", "-a", ".", "a:b", "a b", "\u00f1", "a\u00f1", " ", "a ", "a\x00", "\xff", "a/", "<"} {
		rightIs(t, fmt.Sprintf("the name %q", name), el("", name, nil), api.ErrName)
		rightIs(t, fmt.Sprintf("an Attr's name %q", name), el("", "a", attrs("u", name, "1")), api.ErrName)
		rightIs(t, fmt.Sprintf("an Attr's name %q within", name), chain(3, el("", "a", attrs("", "x", "1", "", name, "1"))), api.ErrName)
	}
	rightIs(t, "an Attr without a Name", el("", "a", attrs("", "", "1")), api.ErrName)
	for _, s := range []string{"\x00", "\x08", "\x0b", "\x0c", "\x0e", "\x1f", "\ufffe", "\uffff", "\xff", "\xc0\x80", "\xed\xa0\x80", "\xf4\x90\x80\x80", "a\xe4\xbd"} {
		rightIs(t, "a Space", el(s, "a", nil), api.ErrText)
		rightIs(t, "a Space of an Attr", el("", "a", attrs("", "x", "1", s, "y", "2")), api.ErrText)
		rightIs(t, "a Value", el("", "a", attrs("", "x", "1", "", "y", s)), api.ErrText)
		rightIs(t, "a Text", el("", "a", nil, el("", "b", nil), text("a"+s+"b")), api.ErrText)
	}
	rightIs(t, "Attrs alike but for the Space", el("", "a", attrs("", "x", "1", "u", "x", "1", "v", "x", "1", xmlSpace, "x", "1", "U", "x", "1")), api.OK)
	rightIs(t, "Attrs alike but for the Name", el("", "a", attrs("u", "x", "1", "u", "X", "1", "u", "y", "1")), api.OK)
	rightIs(t, "Attrs alike of two elements", el("", "a", attrs("u", "x", "1"), el("", "a", attrs("u", "x", "1")), el("", "a", attrs("u", "x", "1"))), api.OK)
	rightIs(t, "Attrs alike in the XML namespace", el("", "a", attrs(xmlSpace, "x", "1", xmlSpace, "x", "2")), api.ErrTwice)
}

func TestWriteByHand(t *testing.T) {
	b := el("", "b", nil)
	for _, c := range []struct {
		n    xml.Node
		want string
	}{
		{el("u", "a", attrs("v", "x", "1")), `<a xmlns="u" xmlns:a1="v" a1:x="1"/>`},
		{el("", "a", nil), `<a/>`},
		{el("", "a", attrs("", "x", "")), `<a x=""/>`},
		{el("", "a", nil, b), `<a><b/></a>`},
		{el("", "a", nil, text("b")), `<a>b</a>`},
		{el("", "a", attrs("", "y", "1", "", "x", "2"), text("c"), b, text("d"), b, b), `<a y="1" x="2">c<b/>d<b/><b/></a>`},
		{el("", "a", attrs("", "x", "a&b<c>d\"e'f\tg\nh\ri j")), `<a x="a&amp;b&lt;c&gt;d&quot;e'f&#9;g&#10;h&#13;i j"/>`},
		{el("", "a", nil, text("a&b<c>d\"e'f\tg\nh\ri j")), "<a>a&amp;b&lt;c&gt;d\"e'f\tg\nh&#13;i j</a>"},
		{el("", "a", nil, text("&&amp;]]>\r\n")), "<a>&amp;&amp;amp;]]&gt;&#13;\n</a>"},
		{el("<&>\"'\t\n\r", "a", attrs("\r\n\t'\"&<>", "x", "\u00f1")), `<a xmlns="&lt;&amp;&gt;&quot;'&#9;&#10;&#13;" xmlns:a1="&#13;&#10;&#9;'&quot;&amp;&lt;&gt;" a1:x="ñ"/>`},
		{el("u", "a", nil, el("u", "b", nil), el("v", "b", nil, el("v", "c", nil), el("u", "d", nil)), b), `<a xmlns="u"><b/><b xmlns="v"><c/><d xmlns="u"/></b><b xmlns=""/></a>`},
		{el("u", "a", nil, el("", "b", nil, el("", "c", nil), text("d"), el("u", "e", nil)), el("u", "f", nil)), `<a xmlns="u"><b xmlns=""><c/>d<e xmlns="u"/></b><f/></a>`},
		{el("", "a", nil, el("u", "b", nil), el("", "c", nil), el("u", "b", nil)), `<a><b xmlns="u"/><c/><b xmlns="u"/></a>`},
		{el("u", "a", attrs("u", "x", "1")), `<a xmlns="u" xmlns:a1="u" a1:x="1"/>`},
		{el("", "a", attrs("v", "x", "1", "", "y", "2", "u", "x", "3", "v", "z", "4")), `<a xmlns:a1="v" xmlns:a2="u" a1:x="1" y="2" a2:x="3" a1:z="4"/>`},
		{el("", "a", attrs(xmlSpace, "x", "1", "", "x", "2", "u", "x", "3")), `<a xmlns:a1="u" xml:x="1" x="2" a1:x="3"/>`},
		{el(xmlSpace, "a", attrs(xmlSpace, "space", "preserve"), el(xmlSpace, "b", nil), b), `<a xmlns="` + xmlSpace + `" xml:space="preserve"><b/><b xmlns=""/></a>`},
		{el("", "a", attrs("u", "x", "1"), el("", "b", attrs("v", "x", "1", "u", "x", "2"))), `<a xmlns:a1="u" a1:x="1"><b xmlns:a1="v" xmlns:a2="u" a1:x="1" a2:x="2"/></a>`},
		{el("xml", "xmlns", attrs("xmlns", "xmlns", "1", "xml", "xml", "2", "", "xml", "3", xmlSpace, "xmlns", "4")), `<xmlns xmlns="xml" xmlns:a1="xmlns" xmlns:a2="xml" a1:xmlns="1" a2:xml="2" xml="3" xml:xmlns="4"/>`},
		{el("", "a", spaced(10, 10)), `<a xmlns:a1="s0" xmlns:a2="s1" xmlns:a3="s2" xmlns:a4="s3" xmlns:a5="s4" xmlns:a6="s5" xmlns:a7="s6" xmlns:a8="s7" xmlns:a9="s8" xmlns:a10="s9" a1:x0="v" a2:x1="v" a3:x2="v" a4:x3="v" a5:x4="v" a6:x5="v" a7:x6="v" a8:x7="v" a9:x8="v" a10:x9="v"/>`},
	} {
		got, e := xml.Write(c.n)
		if got != c.want || e != api.OK {
			t.Errorf("Write(%s): %v\n%s, not\n%s", dump(c.n), e, got, c.want)
		}
		roundTrip(t, c.n)
	}
}

// roundTrip asks whether a right element, written and read again, is it.
func roundTrip(t *testing.T, n xml.Node) {
	t.Helper()
	s, e := xml.Write(n)
	again, e2 := xml.Parse(s)
	if e != api.OK || e2 != api.OK || dump(again) != dump(n) || !xml.Same(again, n) {
		t.Fatalf("Write (%v) and Parse (%v) of %.500s: %.500q, %.500s", e, e2, dump(n), s, dump(again))
	}
	if want := modelWrite(n, ""); s != want {
		t.Fatalf("Write(%.500s): %.500q, not %.500q", dump(n), s, want)
	}
}

func TestWriteSizes(t *testing.T) {
	room := api.MaxPart - len("<a></a>")
	for _, c := range []struct {
		n   func(s string) xml.Node
		out int // bytes beside s
	}{
		{func(s string) xml.Node { return el("", "a", nil, text(s)) }, len("<a></a>")},
		{func(s string) xml.Node { return el("", "a", attrs("", "x", s)) }, len("<a x=''/>")},
		{func(s string) xml.Node { return el(s, "a", nil) }, len("<a xmlns=''/>")},
		{func(s string) xml.Node { return el("", "a", attrs(s, "x", "")) }, len("<a xmlns:a1='' a1:x=''/>")},
		{func(s string) xml.Node { return el("", "a"+s, nil) }, len("<a/>")},
		{func(s string) xml.Node { return el("", "a", nil, text("<\r&>"), text(s)) }, -1},
		{func(s string) xml.Node { return el("", "a", nil, text("<\r&>"+s)) }, len("<a>&lt;&#13;&amp;&gt;</a>")},
		{func(s string) xml.Node { return el("", "a", attrs("", "x", "\t\""+s)) }, len("<a x='&#9;&quot;'/>")},
	} {
		if c.out < 0 {
			rightIs(t, "a wrong one that would be too long", c.n(strings.Repeat("b", api.MaxPart)), api.ErrArg)
			continue
		}
		roundTrip(t, c.n(strings.Repeat("b", api.MaxPart-c.out)))
		for _, more := range []int{1, 2, 10, api.MaxPart} {
			n := c.n(strings.Repeat("b", api.MaxPart-c.out+more))
			if s, e := xml.Write(n); s != "" || e != api.ErrBig || xml.Right(n) != api.OK {
				t.Errorf("Write of %d bytes too many: %.50q %v, Right %v", more, s, e, xml.Right(n))
			}
		}
	}
	for _, sign := range []string{"&", "<", ">", "\r"} {
		size := len(modelWrite(text(sign), ""))
		full := strings.Repeat(sign, room/size) + strings.Repeat("b", room%size)
		roundTrip(t, el("", "a", nil, text(full)))
		for _, s := range []string{full + "b", sign + full, strings.Repeat(sign, 3<<20)} {
			if s, e := xml.Write(el("", "a", nil, text(s))); s != "" || e != api.ErrBig {
				t.Errorf("Write of too many %q: %.50q %v", sign, s, e)
			}
		}
	}
	long := strings.Repeat("n", 200)
	if s, e := xml.Write(el("", long, nil, slices.Repeat([]xml.Node{el("", long, nil)}, 19999)...)); s != "" || e != api.ErrBig {
		t.Errorf("Write of long names: %.50q %v", s, e)
	}
}

func TestRoundAtTheLimits(t *testing.T) {
	for _, n := range []xml.Node{
		chain(32), chain(32, text("b")), el("", "a", nil, flock(19999)...), el("u", "a", spaced(31, 0)), el("u", "a", spaced(21, 10)), el("", "a", spaced(30, 1)), chain(31, el("u", "b", spaced(21, 10))), el("u", "a", nil, slices.Repeat([]xml.Node{el("", "b", nil), text("\r")}, 5000)...),
	} {
		roundTrip(t, n)
	}
}

// anyNode is a right element, as deep as told at the most.
func anyNode(r *rand.Rand, deep int) xml.Node {
	names := []string{"a", "b", "_", "x.-1", "xml", "Z"}
	spaces := []string{"", "", "u", "v", "w w", xmlSpace, "<&>\"'\t\r\n", "\u4f60"}
	texts := []string{"", "1", "a b", "<&>\"'", "\t\n\r", "\r\n", "&amp;", "]]>", "\u00f1\u4f60\U0010ffff\ufffd", " ", "-->", "&#65;"}
	n := xml.Node{Space: oneOf(r, spaces...), Name: oneOf(r, names...)}
	for range r.Intn(6) {
		a := xml.Attr{Space: oneOf(r, spaces...), Name: oneOf(r, names...), Value: oneOf(r, texts...) + oneOf(r, texts...)}
		if _, there := xml.Attribute(n, a.Space, a.Name); !there {
			n.Attrs = append(n.Attrs, a)
		}
	}
	for range r.Intn(6) {
		last := len(n.Kids) - 1
		if s := oneOf(r, texts...) + oneOf(r, texts...); s != "" && r.Intn(2) == 0 && (last < 0 || n.Kids[last].Name != "") {
			n.Kids = append(n.Kids, text(s))
		} else if deep > 0 {
			n.Kids = append(n.Kids, anyNode(r, deep-1))
		}
	}
	return n
}

func TestRoundOfAnyNodes(t *testing.T) {
	r := rand.New(rand.NewSource(77))
	for range 6000 {
		n := anyNode(r, 1+r.Intn(4))
		rightIs(t, dump(n), n, api.OK)
		roundTrip(t, n)
	}
}

// foreign reads a text by another reader of XML.
func foreign(s string) (xml.Node, error) {
	d := stdxml.NewDecoder(strings.NewReader(s))
	stack := []xml.Node{{}}
	for {
		token, err := d.Token()
		if err == io.EOF {
			return stack[0].Kids[0], nil
		}
		if err != nil {
			return xml.Node{}, err
		}
		top := len(stack) - 1
		switch x := token.(type) {
		case stdxml.StartElement:
			n := xml.Node{Space: x.Name.Space, Name: x.Name.Local}
			for _, a := range x.Attr {
				if a.Name.Space != "xmlns" && (a.Name.Space != "" || a.Name.Local != "xmlns") {
					n.Attrs = append(n.Attrs, xml.Attr{Space: a.Name.Space, Name: a.Name.Local, Value: a.Value})
				}
			}
			stack = append(stack, n)
		case stdxml.EndElement:
			stack[top-1].Kids = append(stack[top-1].Kids, stack[top])
			stack = stack[:top]
		case stdxml.CharData:
			stack[top].Kids = append(stack[top].Kids, text(string(x)))
		}
	}
}

func TestWriteForAnotherReader(t *testing.T) {
	r := rand.New(rand.NewSource(777))
	for range 5000 {
		n := anyNode(r, 3)
		s, _ := xml.Write(n)
		if got, err := foreign(s); err != nil || dump(got) != dump(n) {
			t.Fatalf("another reader makes of %q: %v %s, not %s", s, err, dump(got), dump(n))
		}
	}
}

func TestSame(t *testing.T) {
	whole := func() xml.Node {
		return el("u", "a", attrs("v", "x", "1", "", "y", "2"), text("b"), el("", "c", attrs("", "z", "3"), text("d")), text("e"), el("", "f", nil))
	}
	changes := map[string]func(n *xml.Node){
		"Space":             func(n *xml.Node) { n.Space = "U" },
		"Name":              func(n *xml.Node) { n.Name = "A" },
		"Text":              func(n *xml.Node) { n.Text = "b" },
		"an Attr's Space":   func(n *xml.Node) { n.Attrs[0].Space = "" },
		"an Attr's Name":    func(n *xml.Node) { n.Attrs[1].Name = "Y" },
		"an Attr's Value":   func(n *xml.Node) { n.Attrs[1].Value = "" },
		"an Attr less":      func(n *xml.Node) { n.Attrs = n.Attrs[:1] },
		"no Attrs":          func(n *xml.Node) { n.Attrs = nil },
		"an Attr more":      func(n *xml.Node) { n.Attrs = append(n.Attrs, xml.Attr{}) },
		"the Attrs' order":  func(n *xml.Node) { slices.Reverse(n.Attrs) },
		"a kid's Text":      func(n *xml.Node) { n.Kids[0].Text = "B" },
		"a kid's Name":      func(n *xml.Node) { n.Kids[3].Name = "F" },
		"a kid's Space":     func(n *xml.Node) { n.Kids[3].Space = "u" },
		"a kid's Attr":      func(n *xml.Node) { n.Kids[1].Attrs[0].Value = "4" },
		"a kid's kid":       func(n *xml.Node) { n.Kids[1].Kids[0].Text = "D" },
		"a kid's kids":      func(n *xml.Node) { n.Kids[1].Kids = nil },
		"a kid more":        func(n *xml.Node) { n.Kids = append(n.Kids, xml.Node{}) },
		"a kid less":        func(n *xml.Node) { n.Kids = n.Kids[:3] },
		"no kids":           func(n *xml.Node) { n.Kids = nil },
		"the kids' order":   func(n *xml.Node) { n.Kids[1], n.Kids[3] = n.Kids[3], n.Kids[1] },
		"the texts' order":  func(n *xml.Node) { n.Kids[0], n.Kids[2] = n.Kids[2], n.Kids[0] },
		"a kid a step down": func(n *xml.Node) { n.Kids[3].Kids, n.Kids[1].Kids = n.Kids[1].Kids, nil },
	}
	if !xml.Same(whole(), whole()) {
		t.Error("Same of one twice: false")
	}
	for what, change := range changes {
		n := whole()
		change(&n)
		if xml.Same(n, whole()) || xml.Same(whole(), n) {
			t.Errorf("Same, with another %s: true", what)
		}
		if !xml.Same(n, n) {
			t.Errorf("Same of one twice, with another %s: false", what)
		}
		if xml.Same(el("", "a", nil, n), el("", "a", nil, whole())) {
			t.Errorf("Same, with another %s within: true", what)
		}
	}
	empty := xml.Node{Name: "a", Attrs: []xml.Attr{}, Kids: []xml.Node{}}
	if !xml.Same(empty, el("", "a", nil)) || !xml.Same(el("", "a", nil, empty), el("", "a", nil, el("", "a", nil))) || !xml.Same(xml.Node{}, xml.Node{}) {
		t.Error("Same holds lists that are nil and empty apart")
	}
	if !xml.Same(chain(65536, text("b")), chain(65536, text("b"))) || xml.Same(chain(65536, text("b")), chain(65536, text("c"))) {
		t.Error("Same of what is nested deep")
	}
}

func TestName(t *testing.T) {
	first := "ABCDEFGHIJKLMNOPQRSTUVWXYZ_abcdefghijklmnopqrstuvwxyz"
	later := first + "0123456789.-"
	for c := range 256 {
		s := string([]byte{byte(c)})
		if got := xml.Name(s); got != strings.Contains(first, s) {
			t.Errorf("Name(%q): %v", s, got)
		}
		for _, whole := range []string{"a" + s, "_9" + s, "a" + s + "b", "ab-" + s + ".c"} {
			if got := xml.Name(whole); got != strings.Contains(later, s) {
				t.Errorf("Name(%q): %v", whole, got)
			}
		}
		if got := xml.Name(s + "a"); got != strings.Contains(first, s) {
			t.Errorf("Name(%q): %v", s+"a", got)
		}
	}
	for _, s := range []string{"", "a:b", ":", "a:", ":a", "\u00f1", "a\u00f1", "1", "-", ".", "a b", " a", "a "} {
		if xml.Name(s) {
			t.Errorf("Name(%q): true", s)
		}
	}
	if !xml.Name(strings.Repeat("a-", 1<<20)) || xml.Name(strings.Repeat("a-", 1<<20)+":") {
		t.Error("Name of what is long")
	}
}

func TestAttribute(t *testing.T) {
	n := el("", "a", attrs("", "x", "1", "u", "x", "2", "v", "y", "", "", "", "3", "u", "x", "4"), el("", "b", attrs("", "z", "5")))
	for _, c := range []struct {
		space, name, want string
		ok                bool
	}{
		{"", "x", "1", true}, {"u", "x", "2", true}, {"v", "y", "", true}, {"", "", "3", true}, {"v", "x", "", false}, {"", "y", "", false}, {"u", "y", "", false}, {"", "X", "", false}, {"U", "x", "", false}, {"", "z", "", false}, {"u", "", "", false},
	} {
		if got, ok := xml.Attribute(n, c.space, c.name); got != c.want || ok != c.ok {
			t.Errorf("Attribute %q %q: %q %v", c.space, c.name, got, ok)
		}
	}
	for _, n := range []xml.Node{{}, text("b"), el("", "a", nil)} {
		if got, ok := xml.Attribute(n, "", ""); got != "" || ok {
			t.Errorf("Attribute of %s: %q %v", dump(n), got, ok)
		}
	}
}

func TestInner(t *testing.T) {
	b := el("", "b", nil, text("no"))
	for _, c := range []struct {
		n    xml.Node
		want string
	}{
		{text("a"), "a"}, {text(""), ""}, {xml.Node{}, ""}, {el("", "a", nil), ""}, {el("", "a", nil, b), ""}, {el("", "a", nil, text("c")), "c"}, {el("u", "a", attrs("", "x", "1"), text("c"), b, text("d"), b, b, text("e")), "cde"}, {el("", "a", nil, b, text("c")), "c"}, {el("", "a", nil, text("c"), text("d")), "cd"}, {el("", "a", nil, text("\xff"), b, text("\r\n")), "\xff\r\n"},
		{el("", "a", nil, text("c"), xml.Node{Name: "b", Text: "no"}, xml.Node{Space: "u", Text: "no"}, xml.Node{Text: "no", Kids: []xml.Node{b}}, xml.Node{Text: "no", Attrs: attrs("", "x", "1")}), "c"},
		{xml.Node{Name: "a", Text: "no", Kids: []xml.Node{text("c")}}, "c"},
	} {
		if got := xml.Inner(c.n); got != c.want {
			t.Errorf("Inner(%s): %q, not %q", dump(c.n), got, c.want)
		}
	}
	if got := xml.Inner(chain(65536, text("b"))); got != "" {
		t.Errorf("Inner of what is nested deep: %q", got)
	}
}

// roomy is n with spare room in all lists.
func roomy(n xml.Node) xml.Node {
	n.Attrs = append(make([]xml.Attr, 0, len(n.Attrs)+4), n.Attrs...)
	kids := make([]xml.Node, 0, len(n.Kids)+4)
	for _, k := range n.Kids {
		kids = append(kids, roomy(k))
	}
	n.Kids = kids
	return n
}

// withSpare is dump, with what stands in the spare room.
func withSpare(n xml.Node) string {
	s := fmt.Sprintf("{%q %q %q %q", n.Space, n.Name, n.Text, n.Attrs[:cap(n.Attrs)])
	for _, k := range n.Kids[:cap(n.Kids)] {
		s += withSpare(k)
	}
	return s + "}"
}

func TestNothingHandedInIsChanged(t *testing.T) {
	r := rand.New(rand.NewSource(7777))
	for range 500 {
		n := roomy(anyNode(r, 3))
		fillSpare(n)
		before := withSpare(n)
		xml.Right(n)
		xml.Write(n)
		xml.Same(n, n)
		xml.Inner(n)
		xml.Attribute(n, "u", "none")
		if withSpare(n) != before {
			t.Fatalf("changed: %s, not %s", withSpare(n), before)
		}
	}
}
