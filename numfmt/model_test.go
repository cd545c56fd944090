package numfmt_test

import (
	"math"
	"math/big"
	"math/rand"
	"regexp"
	"slices"
	"strings"
	"testing"

	"quire/api"
	"quire/dec"
	"quire/numfmt"
	"quire/val"
)

const (
	least    = math.MinInt64
	greatest = math.MaxInt64
)

// is holds what came against what must come.
func is[T comparable](t *testing.T, got, want T, what string, of ...any) {
	t.Helper()
	if got != want {
		t.Errorf("%s %#v: %#v, not %#v", what, of, got, want)
	}
}

// stop ends a test that has failed: a test of very many codes would tell very much.
func stop(t *testing.T) {
	if t.Failed() {
		t.FailNow()
	}
}

func num(c int64, e int) api.Value {
	return api.Value{Kind: api.VNum, N: api.Dec{C: c, E: e}}
}

func text(s string) api.Value { return api.Value{Kind: api.VText, S: s} }

// The model: what a code is, as patterns, by the words alone.

const (
	literal  = `"[ !#-~]*"|\\[ -~]|[ $\-+()/:]`
	edge     = `((?:` + literal + `|%)*)`
	figures  = `(#(?:,?#)*(?:,?0)*|0(?:,?0)*)(\.0*#*)?`
	section  = edge + `(?:` + figures + `)?` + edge
	ofText   = `((?:` + literal + `|@)*)`
	wholly   = `^` + section + `(?:;` + section + `(?:;` + section + `(?:;` + ofText + `)?)?)?$`
	inOne    = 4 // groups of a section
	thatMany = 3 // sections of numbers
)

var (
	codePattern    = regexp.MustCompile(wholly)
	literalPattern = regexp.MustCompile(literal + `|@`)
)

// meant is what literals stand for.
func meant(s string) string {
	return literalPattern.ReplaceAllStringFunc(s, func(one string) string {
		switch one[0] {
		case '"':
			return one[1 : len(one)-1]
		case '\\':
			return one[1:]
		case '@':
			return "\x00"
		}
		return one
	})
}

// bare is what is left of a text without its literals: the signs that make percentages.
func bare(s string) string { return literalPattern.ReplaceAllString(s, "") }

func modelSection(head, whole, part, tail string) numfmt.Section {
	point := part != ""
	part = strings.TrimPrefix(part, ".")
	whole, group := strings.ReplaceAll(whole, ",", ""), strings.Contains(whole, ",")
	return numfmt.Section{
		Before: meant(head), After: meant(tail),
		Whole: len(whole), Zeros: len(strings.Trim(whole, "#")),
		Point: point,
		Part:  len(part), PartZero: len(strings.Trim(part, "#")),
		Group:   group,
		Percent: len(bare(head) + bare(tail)),
		Digits:  whole != "",
	}
}

func modelParse(code string) ([]numfmt.Section, api.Errno) {
	if len(code) > 64 {
		return nil, api.ErrBig
	}
	if code == "General" {
		return nil, api.OK
	}
	found := codePattern.FindStringSubmatchIndex(code)
	if found == nil {
		return nil, api.ErrSyntax
	}
	group := func(i int) (string, bool) {
		if found[2*i] < 0 {
			return "", false
		}
		return code[found[2*i]:found[2*i+1]], true
	}
	var all []numfmt.Section
	for i := range thatMany {
		if head, there := group(1 + i*inOne); there {
			whole, _ := group(2 + i*inOne)
			part, _ := group(3 + i*inOne)
			tail, _ := group(4 + i*inOne)
			all = append(all, modelSection(head, whole, part, tail))
		}
	}
	if s, there := group(1 + thatMany*inOne); there {
		all = append(all, numfmt.Section{Before: meant(s), Text: true})
	}
	for _, s := range all {
		if s.Whole > 20 || s.Part > 18 || s.Percent > 4 {
			return nil, api.ErrBig
		}
	}
	return all, api.OK
}

// power is 10 to the e.
func power(e int) *big.Rat {
	p := new(big.Rat).SetInt(new(big.Int).Exp(big.NewInt(10), big.NewInt(int64(max(e, -e))), nil))
	if e < 0 {
		p.Inv(p)
	}
	return p
}

// told asks whether a Dec is the number.
func told(n *big.Rat) bool {
	for e := -api.MaxExp; e <= api.MaxExp; e++ {
		if c := new(big.Rat).Mul(n, power(-e)); c.IsInt() && c.Num().IsInt64() {
			return true
		}
	}
	return false
}

// modelDigits are those of n, which is not below 0, with so many behind the point; and is what they are worth 0?
func modelDigits(n *big.Rat, places int) (whole, part string, nought bool) {
	n = new(big.Rat).Mul(n, power(places))
	n.Add(n, big.NewRat(1, 2))
	units := new(big.Int).Quo(n.Num(), n.Denom())
	s := units.String()
	for len(s) <= places {
		s = "0" + s
	}
	return s[:len(s)-places], s[len(s)-places:], units.Sign() == 0
}

var lastFour = regexp.MustCompile(`(\d)(\d{3})($|,)`)

func modelFigures(s numfmt.Section, whole, part string) string {
	if !s.Digits {
		return ""
	}
	whole = strings.TrimLeft(whole, "0")
	for len(whole) < s.Zeros {
		whole = "0" + whole
	}
	for s.Group && lastFour.MatchString(whole) {
		whole = lastFour.ReplaceAllString(whole, "$1,$2$3")
	}
	for len(part) > s.PartZero && strings.HasSuffix(part, "0") {
		part = part[:len(part)-1]
	}
	if s.Point {
		return whole + "." + part
	}
	return whole
}

func modelRender(code string, v api.Value) string {
	all, _ := modelParse(code)
	if !val.Right(v) || len(all) == 0 {
		return val.Show(v)
	}
	switch v.Kind {
	case api.VText:
		if len(all) == 4 {
			return strings.Join(strings.Split(all[3].Before, "\x00"), v.S)
		}
		return v.S
	case api.VNum:
		return modelNumber(all, v)
	}
	return val.Show(v)
}

func modelNumber(all []numfmt.Section, v api.Value) string {
	n := new(big.Rat).Mul(new(big.Rat).SetInt64(v.N.C), power(v.N.E))
	s := all[[][3]int{{0, 0, 0}, {1, 0, 0}, {1, 2, 0}, {1, 2, 0}}[len(all)-1][n.Sign()+1]]
	below := n.Sign() < 0
	n.Abs(n)
	tellable := told(n)
	for range s.Percent {
		n.Mul(n, big.NewRat(100, 1))
		tellable = tellable && told(n)
	}
	if !tellable {
		return val.Show(v)
	}
	whole, part, nought := modelDigits(n, s.Part)
	out := s.Before + modelFigures(s, whole, part) + s.After
	if below && len(all) == 1 && !nought {
		out = "-" + out
	}
	return out
}

func parsesAsModel(t *testing.T, code string) bool {
	t.Helper()
	stop(t)
	got, fault := numfmt.Parse(code)
	want, wantFault := modelParse(code)
	is(t, fault, wantFault, "Parse", code)
	if !slices.Equal(got, want) {
		t.Errorf("Parse %q: %+v, not %+v", code, got, want)
	}
	return wantFault == api.OK
}

// Codes and values of any kind.

// anyOf is one of several.
func anyOf[T any](r *rand.Rand, l ...T) T { return l[r.Intn(len(l))] }

// many is a text of up to most pieces.
func many(r *rand.Rand, most int, pieces ...string) string {
	var s string
	for range r.Intn(most + 1) {
		s += anyOf(r, pieces...)
	}
	return s
}

// anyEdge is a head or a tail.
func anyEdge(r *rand.Rand) string {
	return many(r, 2, " ", "$", "-", "+", "(", ")", "/", ":", "%", "%", `"a;b"`, `"0#%@"`, `""`, `\;`, `\"`, `\\`, `\0`, `\%`, `"\"`)
}

// anyFigures are digits, or none.
func anyFigures(r *rand.Rand) string {
	comma := func(sign string) (s string) {
		for range r.Intn(6) {
			s += sign + anyOf(r, "", "", "", ",")
		}
		return s
	}
	whole := strings.TrimSuffix(comma("#")+comma("0"), ",")
	if whole == "" || r.Intn(2) == 0 {
		return whole
	}
	return whole + "." + many(r, 4, "0") + many(r, 4, "#")
}

// anyCode is one, but at times it is wrong in a place.
func anyCode(r *rand.Rand) string {
	code := anyEdge(r) + anyFigures(r) + anyEdge(r)
	sections := r.Intn(4)
	for range min(sections, 2) {
		code += ";" + anyEdge(r) + anyFigures(r) + anyEdge(r)
	}
	if sections == 3 {
		code += ";" + strings.ReplaceAll(anyEdge(r), "%", "@") + many(r, 3, "@", "a", " ", `"x"`, `\@`)
	}
	if r.Intn(3) > 0 || code == "" {
		return code
	}
	at := r.Intn(len(code))
	return code[:at] + anyOf(r, "", "#", "0", ",", ".", "%", ";", "@", `"`, `\`, "x", "\x1f", "\x7f", "é") + code[at+r.Intn(2):]
}

// anyNumber is one of a size that often is a little one.
func anyNumber(r *rand.Rand) api.Value {
	e := r.Intn(2*api.MaxExp+1) - api.MaxExp
	if r.Intn(2) == 0 {
		e = -r.Intn(8)
	}
	d, _ := dec.Make(int64(r.Uint64())>>r.Intn(64), e)
	return num(d.C, d.E)
}

// values are of each kind, with numbers at the edges, and some that are not right.
func values() []api.Value {
	all := []api.Value{{}, {Kind: api.VBool}, {Kind: api.VBool, B: true}, {Kind: api.VErr, E: api.EDiv}, {Kind: api.VErr, E: api.ECycle}, text(""), text("a"), text("ñ@\""), text(strings.Repeat("a", 255))}
	for _, n := range []string{"0", "1", "-1", "2", "9", "-9", "0.5", "-0.5", "0.4", "-0.4", "0.05", "0.005", "-0.005", "0.004", "-0.004", "0.999", "9.995", "99.5", "999.5", "1000", "-1000", "12", "123", "-1234", "1234.5", "1234567.891", "-0.256", "0.1", "1e18", "-1e18", "1e36", "1e-18", "-1e-18", "5e-18", "0.000000000000000001"} {
		all = append(all, val.Typed(n))
	}
	for _, e := range []int{-18, -17, -9, -2, -1, 0, 1, 2, 9, 10, 15, 16, 17, 18} {
		all = append(all, num(greatest, e), num(least, e), num(least+1, e), num(1, e), num(-1, e), num(-92233720368547758, e), num(92233720368547759, e))
	}
	return append(all, num(10, 0), num(0, 1), num(1, 19), num(1, -19), text("\x00"), text(strings.Repeat("a", 256)), api.Value{Kind: 5}, api.Value{Kind: -1}, api.Value{Kind: api.VErr}, api.Value{Kind: api.VErr, E: 8}, api.Value{Kind: api.VNum, S: "a"}, api.Value{Kind: api.VText, B: true}, api.Value{Kind: api.VBool, E: 1}, api.Value{B: true})
}

// codes are of each kind, right or not.
var codes = []string{
	"General", "", "0", "#", "##", "00", "#0", "0.", "#.", "0.0", "0.00", "0.#", "#.#", "#.##", "0.0#", "0.00##", "#,##0", "#,##0.00", "0,000", "0,0", "#,#", "#,###.##", "000,000,000", "0,0,0,0,0",
	"0%", "%0", "0.00%", "%#%", "%%0%%", "%%%%", "%", "%0.##%", "0.000000000000000000", "#.##################", "00000000000000000000", "####################", "0%%%%%", "0.0000000000000000000", "000000000000000000000",
	"0;(0)", "0;-0", `0;"minus "0.0`, "#;#", ";", "0;", ";0", "0;;", ";;", ";;;", ";;;@", "0;-0;\"zero\"", "0;-0;\"zero\";@", `0.0;(0.0);-;"<"@">"`, ";;;@@", `;;;\@@"@"`, `;;;"x"`, ";;;0", ";;;%", ";;;;", "@", "0;@",
	"$0", "-0", "(0)", `"x"0`, `"x"`, `0"x"`, `\x0\y`, `"a;b"0;"c"`, `"-"0`, `"0"0`, `"`, `\`, "0 0", "x", "0#", "0.#0", ",0", "0,", "0,,0", ".0", "0.0.0", "general", "General;0", "0;General", " General",
}

func TestParseAsModelAllShortCodes(t *testing.T) {
	const signs = "#0,.%;@\"\\ x"
	short := []string{""}
	for range 5 {
		for _, code := range short {
			parsesAsModel(t, code)
		}
		var longer []string
		for _, code := range short {
			for _, sign := range signs {
				longer = append(longer, code+string(sign))
			}
		}
		short = longer
	}
	for _, code := range short {
		parsesAsModel(t, code)
	}
}

func TestParseAsModelAnyCodes(t *testing.T) {
	r := rand.New(rand.NewSource(1401))
	good := 0
	for range 100000 {
		if parsesAsModel(t, anyCode(r)) {
			good++
		}
	}
	if good < 50000 {
		t.Errorf("only %d codes were right", good)
	}
}

// TestParseAsModelLongRuns asks codes at the bounds of what they may have.
func TestParseAsModelLongRuns(t *testing.T) {
	r := rand.New(rand.NewSource(1402))
	for range 50000 {
		code := strings.Repeat("%", r.Intn(4)) + strings.Repeat("#", r.Intn(14)) + strings.Repeat("0", r.Intn(14))
		if r.Intn(2) == 0 {
			code += "." + strings.Repeat("0", r.Intn(13)) + strings.Repeat("#", r.Intn(13))
		}
		code += strings.Repeat("%", r.Intn(4)) + anyOf(r, "", "", "x", ";0", ";;;%", ";%%%%%", ";;;"+strings.Repeat("@", r.Intn(60)))
		parsesAsModel(t, code)
	}
}

func TestRenderAsModelAtEdges(t *testing.T) {
	for _, code := range codes {
		parsesAsModel(t, code)
		for _, v := range values() {
			stop(t)
			is(t, numfmt.Render(code, v), modelRender(code, v), "Render", code, v)
		}
	}
}

func TestRenderAsModelAnyCodes(t *testing.T) {
	r := rand.New(rand.NewSource(1403))
	fixed := values()
	for range 60000 {
		code, v := anyCode(r), anyOf(r, anyNumber(r), anyNumber(r), anyOf(r, fixed...))
		stop(t)
		is(t, numfmt.Render(code, v), modelRender(code, v), "Render", code, v)
	}
}
