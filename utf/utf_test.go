package utf_test

import (
	"fmt"
	"math"
	"math/rand"
	"slices"
	"strings"
	"testing"
	"unicode/utf8"

	"quire/api"
	"quire/utf"
)

const bad = "\xef\xbf\xbd" // 0xFFFD, as UTF-8 writes it

// isCharacter says what a character is, by the document's words.
func isCharacter(n int) bool {
	return n >= 0 && n <= 0x10FFFF && (n < 0xD800 || n > 0xDFFF)
}

// written is number n in just so many bytes, the way of UTF-8, whether that is right or not.
func written(n, size int) string {
	if size == 1 {
		return string([]byte{byte(n)})
	}
	out := make([]byte, size)
	for i := size - 1; i > 0; i-- {
		out[i] = 0x80 | byte(n&0x3F)
		n >>= 6
	}
	lead := 0xF00 >> size // as many bits as there are bytes, and a 0 behind them
	out[0] = byte(lead | n)
	return string(out)
}

// fewest is how many bytes character n needs.
func fewest(n int) int {
	switch {
	case n < 0x80:
		return 1
	case n < 0x800:
		return 2
	case n < 0x10000:
		return 3
	}
	return 4
}

// beginning is the character that s begins with, and its bytes: 0 of them, if it begins with none. It tries every size, reads the bits, and writes them again.
func beginning(s string) (n, size int) {
	for size = 1; size <= 4 && size <= len(s); size++ {
		n = int(s[0])
		if size > 1 {
			n &= 0xFF >> (size + 1)
			for _, b := range []byte(s[1:size]) {
				n = n<<6 | int(b&0x3F)
			}
		}
		if isCharacter(n) && fewest(n) == size && written(n, size) == s[:size] {
			return n, size
		}
	}
	return 0, 0
}

// model is what the document's words make of s.
type model struct {
	valid, xml bool
	numbers    []int
	pieces     []string // each character, as UTF-8 writes it
}

func modelOf(s string) model {
	m := model{valid: true, xml: true}
	for len(s) > 0 {
		n, size := beginning(s)
		if size == 0 {
			n, size, m.valid = 0xFFFD, 1, false
		}
		if n < 0x20 && n != 9 && n != 10 && n != 13 || n == 0xFFFE || n == 0xFFFF {
			m.xml = false
		}
		m.numbers = append(m.numbers, n)
		m.pieces = append(m.pieces, written(n, fewest(n)))
		s = s[size:]
	}
	m.xml = m.xml && m.valid
	return m
}

// cut is the model's Cut, in numbers that no int's edge can turn round.
func (m model) cut(from, n int) string {
	low := min(max(from, 0), len(m.pieces))
	high := low + min(max(n, 0), len(m.pieces)-low)
	return strings.Join(m.pieces[low:high], "")
}

func errno(ok bool) api.Errno {
	if ok {
		return api.OK
	}
	return api.ErrText
}

// against holds all that P601 and P602 say of s against the model.
func against(t *testing.T, s string) {
	t.Helper()
	m := modelOf(s)
	if got := utf.Valid(s); got != m.valid {
		t.Fatalf("Valid(%x): %v", s, got)
	}
	if got := utf.Xml(s); got != errno(m.xml) {
		t.Fatalf("Xml(%x): %v", s, got)
	}
	if got := utf.Count(s); got != len(m.numbers) {
		t.Fatalf("Count(%x): %d, not %d", s, got, len(m.numbers))
	}
	if got := utf.Runes(s); !slices.Equal(got, m.numbers) {
		t.Fatalf("Runes(%x): %x, not %x", s, got, m.numbers)
	}
	if got := utf.Cut(s, 0, len(s)); got != strings.Join(m.pieces, "") {
		t.Fatalf("Cut(%x) of all: %x", s, got)
	}
	if got := utf.Text(m.numbers); got != strings.Join(m.pieces, "") {
		t.Fatalf("Text(%x): %x", m.numbers, got)
	}
}

// edgeNumbers and edgeBytes are those at which UTF-8 or XML changes its ways.
var edgeNumbers = []int{0, 1, 8, 9, 10, 11, 12, 13, 14, 0x1F, 0x20, 0x7E, 0x7F, 0x80, 0x7FF, 0x800, 0xFFF, 0x1000, 0xCFFF, 0xD000, 0xD7FF, 0xE000, 0xFFFC, 0xFFFD, 0xFFFE, 0xFFFF, 0x10000, 0x1FFFE, 0x1FFFF, 0x3FFFF, 0x40000, 0xFFFFF, 0x100000, 0x10FFFE, 0x10FFFF}

var edgeBytes = []byte{0, 'a', 0x7F, 0x80, 0x8F, 0x90, 0x9F, 0xA0, 0xBD, 0xBF, 0xC0, 0xC1, 0xC2, 0xDF, 0xE0, 0xE1, 0xEC, 0xED, 0xEE, 0xEF, 0xF0, 0xF1, 0xF3, 0xF4, 0xF5, 0xF7, 0xF8, 0xFC, 0xFE, 0xFF}

// anyText is n pieces: characters, whole, cut short or with a byte turned, blanks, letters and bytes of any kind.
func anyText(r *rand.Rand, n int, onlyValid bool) string {
	var out strings.Builder
	for range n {
		c := edgeNumbers[r.Intn(len(edgeNumbers))]
		if r.Intn(3) == 0 {
			c = r.Intn(0x110000)
		}
		if !isCharacter(c) {
			c = 'x'
		}
		s := written(c, fewest(c))
		switch k := r.Intn(8); {
		case k == 0:
			s = strings.Repeat(" ", 1+r.Intn(3))
		case k == 1:
			s = string([]byte{byte('@' + r.Intn(64))})
		case k == 2 && !onlyValid:
			s = s[:r.Intn(len(s)+1)]
		case k == 3 && !onlyValid:
			s = s[r.Intn(len(s)):]
		case k == 4 && !onlyValid:
			s = string([]byte{edgeBytes[r.Intn(len(edgeBytes))]})
		case k == 5 && !onlyValid:
			s = written(r.Intn(0x200000), 2+r.Intn(3))
		}
		out.WriteString(s)
	}
	return out.String()
}

func TestValidOfEveryCharacter(t *testing.T) {
	for n := range 0x200000 {
		s := written(n, fewest(n))
		if got := utf.Valid(s); got != isCharacter(n) {
			t.Fatalf("Valid of %#x: %v", n, got)
		}
	}
}

func TestValidOfTooManyBytes(t *testing.T) {
	for _, n := range edgeNumbers {
		for size := fewest(n) + 1; size <= 4; size++ {
			s := written(n, size)
			if utf.Valid(s) || utf.Valid("a"+s) || utf.Valid(s+"b") || utf.Xml(s) != api.ErrText || utf.Count(s) != size {
				t.Errorf("%#x in %d bytes passes for a character", n, size)
			}
		}
	}
}

func TestValidByHand(t *testing.T) {
	right := []string{"", "\x00", "a", "\x7f", "\xc2\x80", "\xdf\xbf", "\xe0\xa0\x80", "\xed\x9f\xbf", "\xee\x80\x80", "\xef\xbf\xbf", bad, "a" + bad + bad + "b", "\xf0\x90\x80\x80", "\xf4\x8f\xbf\xbf", "\xe4\xbd\xa0", "a\xc3\xb1b"}
	wrong := []string{"\xc0\x80", "\xc1\xbf", "\xe0\x9f\xbf", "\xf0\x8f\xbf\xbf", "\xed\xa0\x80", "\xed\xbf\xbf", "\xf4\x90\x80\x80", "\xf8\x88\x80\x80\x80", "\x80", "\xbf", "\xff", "\xfe", "\xffa", "a\xffb", "a\xff", "\xff\xff\xff", "\xc2", "\xe4", "\xe4\xbd", "\xf0\x90\x80", "a\xe4\xbd", "\xe4\xbda", bad + "\xff", "\xff" + bad, "\xef\xbf", "\xef\xbf\xef\xbf\xbd", "\xe4\xbd\xa0\xa0"}
	for _, s := range right {
		if !utf.Valid(s) {
			t.Errorf("Valid(%x): false", s)
		}
	}
	for _, s := range wrong {
		if utf.Valid(s) {
			t.Errorf("Valid(%x): true", s)
		}
		if got := utf.Xml(s); got != api.ErrText {
			t.Errorf("Xml(%x): %v", s, got)
		}
	}
}

func TestXml(t *testing.T) {
	for n := range 0x110000 {
		if !isCharacter(n) {
			continue
		}
		s := written(n, fewest(n))
		may := n == 9 || n == 10 || n == 13 || n >= 0x20 && n != 0xFFFE && n != 0xFFFF
		if got := utf.Xml(s); got != errno(may) {
			t.Fatalf("Xml of %#x: %v", n, got)
		}
	}
	for _, n := range []int{0, 8, 11, 12, 14, 0x1F, 0xFFFE, 0xFFFF} {
		s := written(n, fewest(n))
		for _, whole := range []string{s + "ab", "a" + s + "b", "ab" + s, "\t\r\n " + s} {
			if got := utf.Xml(whole); got != api.ErrText {
				t.Errorf("Xml(%x): %v", whole, got)
			}
		}
	}
	for _, s := range []string{"", "\t\n\r ", "a\xc3\xb1\xe4\xbd\xa0" + bad + "\xf0\x90\x80\x80\x7f"} {
		if got := utf.Xml(s); got != api.OK {
			t.Errorf("Xml(%x): %v", s, got)
		}
	}
}

func TestAllShortTexts(t *testing.T) {
	against(t, "")
	for a := range 256 {
		against(t, string([]byte{byte(a)}))
		for b := range 256 {
			against(t, string([]byte{byte(a), byte(b)}))
		}
	}
}

func TestTextsOfEdgeBytes(t *testing.T) {
	for _, a := range edgeBytes {
		for _, b := range edgeBytes {
			for _, c := range edgeBytes {
				against(t, string([]byte{a, b, c}))
				for _, d := range edgeBytes {
					against(t, string([]byte{a, b, c, d}))
				}
			}
		}
	}
}

func TestAnyTexts(t *testing.T) {
	r := rand.New(rand.NewSource(6))
	for i := range 20000 {
		s := anyText(r, r.Intn(12), i%2 == 0)
		against(t, s)
		if utf.Valid(s) != utf8.ValidString(s) || i%2 == 0 && !utf.Valid(s) {
			t.Fatalf("Valid(%x): %v", s, utf.Valid(s))
		}
	}
}

func TestRunesByHand(t *testing.T) {
	for _, c := range []struct {
		text string
		want []int
	}{
		{"", nil},
		{"a\xff", []int{97, 0xFFFD}},
		{"\xffa", []int{0xFFFD, 97}},
		{"a\xff\xfeb", []int{97, 0xFFFD, 0xFFFD, 98}},
		{bad, []int{0xFFFD}},
		{"\xe4\xbd\xa0", []int{0x4F60}},
		{"\xe4\xbd", []int{0xFFFD, 0xFFFD}},
		{"\xe4\xbda", []int{0xFFFD, 0xFFFD, 97}},
		{"\xe4\xe4\xbd\xa0", []int{0xFFFD, 0x4F60}},
		{"\xed\xa0\x80", []int{0xFFFD, 0xFFFD, 0xFFFD}},
		{"\xf4\x90\x80\x80", []int{0xFFFD, 0xFFFD, 0xFFFD, 0xFFFD}},
		{"\xf0\xc3\xb1", []int{0xFFFD, 0xF1}},
		{"\x00\xf4\x8f\xbf\xbf", []int{0, 0x10FFFF}},
	} {
		if got := utf.Runes(c.text); !slices.Equal(got, c.want) {
			t.Errorf("Runes(%x): %x, not %x", c.text, got, c.want)
		}
		if got := utf.Count(c.text); got != len(c.want) {
			t.Errorf("Count(%x): %d", c.text, got)
		}
	}
}

func TestText(t *testing.T) {
	for _, c := range []struct {
		numbers []int
		want    string
	}{
		{nil, ""},
		{[]int{}, ""},
		{[]int{0}, "\x00"},
		{[]int{97, 0xF1, 0x4F60, 0x10000}, "a\xc3\xb1\xe4\xbd\xa0\xf0\x90\x80\x80"},
		{[]int{-1, 98}, bad + "b"},
		{[]int{math.MinInt, math.MaxInt}, bad + bad},
		{[]int{0xD7FF, 0xD800, 0xDBFF, 0xDC00, 0xDFFF, 0xE000}, "\xed\x9f\xbf" + bad + bad + bad + bad + "\xee\x80\x80"},
		{[]int{0x10FFFF, 0x110000, 97}, "\xf4\x8f\xbf\xbf" + bad + "a"},
		{[]int{0xFFFD, 0xFFFE, 0xFFFF}, bad + "\xef\xbf\xbe\xef\xbf\xbf"},
		{[]int{math.MaxInt32, math.MinInt32, math.MaxUint32}, bad + bad + bad},
		{[]int{1<<32 + 97, -1<<32 + 97, 1<<40 + 0x4F60, math.MinInt + 97}, bad + bad + bad + bad},
	} {
		if got := utf.Text(c.numbers); got != c.want {
			t.Errorf("Text(%x): %x, not %x", c.numbers, got, c.want)
		}
	}
	for n := -300; n < 0x110200; n++ {
		want := bad
		if isCharacter(n) {
			want = written(n, fewest(n))
		}
		if got := utf.Text([]int{n}); got != want {
			t.Fatalf("Text of %#x: %x", n, got)
		}
	}
}

func TestCutByHand(t *testing.T) {
	for _, c := range []struct {
		text    string
		from, n int
		want    string
	}{
		{"a\xc3\xb1b", 1, 1, "\xc3\xb1"},
		{"a\xc3\xb1b", -1, 2, "a\xc3\xb1"},
		{"a\xc3\xb1b", -5, 1, "a"},
		{"a\xc3\xb1b", math.MinInt, math.MaxInt, "a\xc3\xb1b"},
		{"a\xc3\xb1b", 0, 0, ""},
		{"a\xc3\xb1b", 0, -1, ""},
		{"a\xc3\xb1b", 0, math.MinInt, ""},
		{"a\xc3\xb1b", 0, 3, "a\xc3\xb1b"},
		{"a\xc3\xb1b", 0, 4, "a\xc3\xb1b"},
		{"a\xc3\xb1b", 1, 2, "\xc3\xb1b"},
		{"a\xc3\xb1b", 2, 1, "b"},
		{"a\xc3\xb1b", 2, 2, "b"},
		{"a\xc3\xb1b", 2, math.MaxInt, "b"},
		{"a\xc3\xb1b", 3, 1, ""},
		{"a\xc3\xb1b", 4, math.MaxInt, ""},
		{"a\xc3\xb1b", math.MaxInt, math.MaxInt, ""},
		{"a\xc3\xb1b", math.MaxInt, math.MinInt, ""},
		{"a\xffb", 1, 1, bad},
		{"a\xffb", 1, math.MaxInt, bad + "b"},
		{"a\xffb", 2, 1, "b"},
		{"\xff\xfe\xc3\xb1\xe4\xbd", -7, 3, bad + bad + "\xc3\xb1"},
		{"\xff\xfe\xc3\xb1\xe4\xbd", 2, math.MaxInt, "\xc3\xb1" + bad + bad},
		{"\xff\xfe\xc3\xb1\xe4\xbd", 4, 1, bad},
		{"\xff\xfe\xc3\xb1\xe4\xbd", 5, 1, ""},
		{"", 0, 1, ""},
		{"", math.MinInt, math.MaxInt, ""},
	} {
		if got := utf.Cut(c.text, c.from, c.n); got != c.want {
			t.Errorf("Cut(%x, %d, %d): %x, not %x", c.text, c.from, c.n, got, c.want)
		}
	}
}

func TestCutOfAnyTexts(t *testing.T) {
	r := rand.New(rand.NewSource(61))
	for i := range 2000 {
		s := anyText(r, r.Intn(8), i%2 == 0)
		m := modelOf(s)
		ats := []int{math.MinInt, math.MinInt + 1, math.MaxInt - 1, math.MaxInt}
		for at := -2; at <= len(m.pieces)+2; at++ {
			ats = append(ats, at)
		}
		for _, from := range ats {
			for _, n := range ats {
				if got := utf.Cut(s, from, n); got != m.cut(from, n) {
					t.Fatalf("Cut(%x, %d, %d): %x, not %x", s, from, n, got, m.cut(from, n))
				}
			}
		}
	}
}

func TestUpperAndLower(t *testing.T) {
	for _, c := range []struct{ text, upper, lower string }{
		{"", "", ""},
		{"aZ\xc3\xb1", "AZ\xc3\xb1", "az\xc3\xb1"},
		{"@AZ[`az{", "@AZ[`AZ{", "@az[`az{"},
		{"\xc3\x91\xc3\xb1\xce\xb1\xce\x91\xc4\xb0\xc4\xb1\xc3\x9f\xe2\x84\xaa", "\xc3\x91\xc3\xb1\xce\xb1\xce\x91\xc4\xb0\xc4\xb1\xc3\x9f\xe2\x84\xaa", "\xc3\x91\xc3\xb1\xce\xb1\xce\x91\xc4\xb0\xc4\xb1\xc3\x9f\xe2\x84\xaa"},
		{"\xffa\xe4\xbdB\xc0\x80", "\xffA\xe4\xbdB\xc0\x80", "\xffa\xe4\xbdb\xc0\x80"},
		{bad + "q\x00Q", bad + "Q\x00Q", bad + "q\x00q"},
	} {
		if got := utf.Upper(c.text); got != c.upper {
			t.Errorf("Upper(%x): %x, not %x", c.text, got, c.upper)
		}
		if got := utf.Lower(c.text); got != c.lower {
			t.Errorf("Lower(%x): %x, not %x", c.text, got, c.lower)
		}
	}
	const small, great = "abcdefghijklmnopqrstuvwxyz", "ABCDEFGHIJKLMNOPQRSTUVWXYZ"
	for b := range 256 {
		s := string([]byte{byte(b)})
		upper, lower := s, s
		if at := strings.Index(small, s); at >= 0 {
			upper = great[at : at+1]
		}
		if at := strings.Index(great, s); at >= 0 {
			lower = small[at : at+1]
		}
		if utf.Upper(s) != upper || utf.Lower(s) != lower || utf.Upper("a"+s+"Z") != "A"+upper+"Z" || utf.Lower("a"+s+"Z") != "a"+lower+"z" {
			t.Errorf("byte %#x: %x and %x", b, utf.Upper(s), utf.Lower(s))
		}
	}
}

// trimmed is Trim in another way: blanks beside each other are made one till none are, then one is taken at each end.
func trimmed(s string) string {
	for strings.Contains(s, "  ") {
		s = strings.ReplaceAll(s, "  ", " ")
	}
	return strings.TrimSuffix(strings.TrimPrefix(s, " "), " ")
}

func TestTrim(t *testing.T) {
	for _, c := range []struct{ text, want string }{
		{"", ""},
		{" ", ""},
		{"     ", ""},
		{"a", "a"},
		{" a", "a"},
		{"a ", "a"},
		{"  a  b ", "a b"},
		{"a b", "a b"},
		{"a    b   c  d e", "a b c d e"},
		{"\ta\t\t b\n\n", "\ta\t\t b\n\n"},
		{" \t ", "\t"},
		{" \t  \n ", "\t \n"},
		{"\xc2\xa0 a \xc2\xa0", "\xc2\xa0 a \xc2\xa0"},
		{"\xc2\xa0\xc2\xa0a\xe3\x80\x80", "\xc2\xa0\xc2\xa0a\xe3\x80\x80"},
		{"\r\v\f\x00\x85", "\r\v\f\x00\x85"},
		{"  \xff  \xe4\xbd  ", "\xff \xe4\xbd"},
	} {
		if got := utf.Trim(c.text); got != c.want {
			t.Errorf("Trim(%q): %q, not %q", c.text, got, c.want)
		}
	}
	r := rand.New(rand.NewSource(62))
	for range 20000 {
		s := anyText(r, r.Intn(12), false)
		if got := utf.Trim(s); got != trimmed(s) {
			t.Fatalf("Trim(%q): %q", s, got)
		}
	}
}

func TestLess(t *testing.T) {
	// Each stands ahead of all behind it.
	row := []string{"", "\x00", "\x00\x00", " ", "0", "A", "AB", "Z", "a", "aA", "aa", "a\x7f", "a\x80", "a\xff", "b", "z", "\x7f", "\x80", "\xc2\x80", "\xc3\xb1", "\xe4\xbd", "\xe4\xbd\xa0", "\xee\x80\x80", "\xef\xbf\xbf", "\xf0\x90\x80\x80", "\xf4\x8f\xbf\xbf", "\xff", "\xff\xff"}
	for i, a := range row {
		for j, b := range row {
			if got := utf.Less(a, b); got != (i < j) {
				t.Errorf("Less(%x, %x): %v", a, b, got)
			}
		}
	}
}

func TestLaws(t *testing.T) {
	r := rand.New(rand.NewSource(64))
	for i := range 5000 {
		s := anyText(r, r.Intn(15), true)
		if got := utf.Text(utf.Runes(s)); got != s {
			t.Fatalf("Text of Runes(%x): %x", s, got)
		}
		l := utf.Runes(s)
		if got := utf.Runes(utf.Text(l)); !slices.Equal(got, l) {
			t.Fatalf("Runes of Text(%x): %x", l, got)
		}
		laws(t, r, s, s)
		s = anyText(r, r.Intn(15), i%4 == 0)
		laws(t, r, s, utf.Text(utf.Runes(s)))
	}
}

// laws asks what holds of every text: as is s, with 0xFFFD where s is wrong.
func laws(t *testing.T, r *rand.Rand, s, as string) {
	t.Helper()
	whole := ""
	for at := 0; at < utf.Count(s); {
		n := 1 + r.Intn(4)
		whole += utf.Cut(s, at, n)
		at += n
	}
	if whole != as {
		t.Fatalf("Cut's pieces of %x: %x", s, whole)
	}
	if once := utf.Trim(s); utf.Trim(once) != once {
		t.Fatalf("Trim of Trim(%q): %q", s, utf.Trim(once))
	}
	if utf.Upper(utf.Lower(s)) != utf.Upper(s) || utf.Lower(utf.Upper(s)) != utf.Lower(s) {
		t.Fatalf("Upper of Lower(%q): %q", s, utf.Upper(utf.Lower(s)))
	}
	if utf.Valid(s) && !(utf.Valid(utf.Upper(s)) && utf.Valid(utf.Lower(s)) && utf.Valid(utf.Trim(s))) {
		t.Fatalf("%q is valid, but not all that is made of it", s)
	}
}

func TestSharesNothing(t *testing.T) {
	room := []int{97, 98, 99, 100}
	if got := utf.Text(room[:2]); got != "ab" || fmt.Sprint(room) != "[97 98 99 100]" {
		t.Errorf("Text: %q, and what was handed in is %v", got, room)
	}
	first := utf.Runes("abc")
	for i := range first[:cap(first)] {
		first[:cap(first)][i] = 7
	}
	if got := utf.Runes("abc"); !slices.Equal(got, []int{97, 98, 99}) {
		t.Errorf("Runes, once an earlier answer was written into: %v", got)
	}
}
