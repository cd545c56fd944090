package inflate_test

import (
	"bytes"
	"compress/flate"
	"io"
	"math"
	"math/rand"
	"slices"
	"strings"
	"testing"

	"quire/api"
	"quire/bits"
	"quire/huff"
	"quire/inflate"
)

// RFC 1951's tables, written out, so that they are held against the program's rule.
var (
	lengthBase  = []int{3, 4, 5, 6, 7, 8, 9, 10, 11, 13, 15, 17, 19, 23, 27, 31, 35, 43, 51, 59, 67, 83, 99, 115, 131, 163, 195, 227, 258}
	lengthExtra = []int{0, 0, 0, 0, 0, 0, 0, 0, 1, 1, 1, 1, 2, 2, 2, 2, 3, 3, 3, 3, 4, 4, 4, 4, 5, 5, 5, 5, 0}
	distBase    = []int{1, 2, 3, 4, 5, 7, 9, 13, 17, 25, 33, 49, 65, 97, 129, 193, 257, 385, 513, 769, 1025, 1537, 2049, 3073, 4097, 6145, 8193, 12289, 16385, 24577}
	distExtra   = []int{0, 0, 0, 0, 1, 1, 2, 2, 3, 3, 4, 4, 5, 5, 6, 6, 7, 7, 8, 8, 9, 9, 10, 10, 11, 11, 12, 12, 13, 13}
	order       = []int{16, 17, 18, 0, 8, 7, 9, 6, 10, 5, 11, 4, 12, 3, 13, 2, 14, 1, 15}
)

// plenty is a most that no stream of these tests comes near.
const plenty = 1 << 24

func repeat(v, n int) []int { return slices.Repeat([]int{v}, n) }

// with answers a copy of l with v in place i.
func with(l []int, i, v int) []int {
	l = slices.Clone(l)
	l[i] = v
	return l
}

// fixedLit and fixedDist are the lengths of the fixed codes, from RFC 1951.
func fixedLit() []int {
	return slices.Concat(repeat(8, 144), repeat(9, 112), repeat(7, 24), repeat(8, 8))
}
func fixedDist() []int { return repeat(5, 32) }

// maker writes streams bit by bit, right and wrong ones.
type maker struct {
	*bits.Writer
	lit, dist []int // the lengths of the block's codes
}

func begin() *maker { return &maker{Writer: bits.NewWriter()} }

// lead begins with a fixed block, not the last one, so that n bits behind it a byte ends.
func lead(n int) *maker {
	m := begin().fixed(0)
	for (m.Len()+7+n)%8 != 0 {
		m.text("\xc8")
	}
	return m.end()
}

func (m *maker) num(v, n int) *maker { m.Put(uint32(v), n); return m }

func (m *maker) stored(last int, text string) *maker {
	m.num(last, 1).num(0, 2).Align()
	m.num(len(text), 16).num(^len(text), 16).Bytes([]byte(text))
	return m
}

func (m *maker) fixed(last int) *maker {
	m.lit, m.dist = fixedLit(), fixedDist()
	return m.num(last, 1).num(1, 2)
}

// symbol writes the code of a symbol, the first bit first.
func (m *maker) symbol(lengths []int, symbol int) *maker {
	codes, e := huff.Codes(lengths)
	if e != api.OK || lengths[symbol] == 0 {
		panic("no such code")
	}
	return m.num(int(bits.Reverse(codes[symbol], lengths[symbol])), lengths[symbol])
}

func (m *maker) literal(symbol int) *maker  { return m.symbol(m.lit, symbol) }
func (m *maker) distance(symbol int) *maker { return m.symbol(m.dist, symbol) }
func (m *maker) end() *maker                { return m.literal(256) }

func (m *maker) text(text string) *maker {
	for _, b := range []byte(text) {
		m.literal(int(b))
	}
	return m
}

// row answers the last row of a table that begins at n or below.
func row(base []int, n int) int {
	i, found := slices.BinarySearch(base, n)
	if !found {
		i--
	}
	return i
}

func (m *maker) length(n int) *maker {
	i := row(lengthBase, n)
	return m.literal(257+i).num(n-lengthBase[i], lengthExtra[i])
}

func (m *maker) far(n int) *maker {
	i := row(distBase, n)
	return m.distance(i).num(n-distBase[i], distExtra[i])
}

func (m *maker) copy(length, distance int) *maker { return m.length(length).far(distance) }

// run is a symbol of the code lengths, and what its extra bits tell.
type run struct{ symbol, more int }

// even are code lengths' lengths that are full, and have all symbols.
func even() []int { return append(repeat(4, 13), repeat(5, 6)...) }

// head begins a dynamic block: how many lengths of literals and of distances it tells, and the code lengths' lengths.
func (m *maker) head(last, lits, dists int, lengths []int) *maker {
	many := len(order)
	for many > 4 && lengths[order[many-1]] == 0 {
		many--
	}
	m.num(last, 1).num(2, 2).num(lits-257, 5).num(dists-1, 5).num(many-4, 4)
	for _, symbol := range order[:many] {
		m.num(lengths[symbol], 3)
	}
	return m
}

// runs writes symbols of the code lengths.
func (m *maker) runs(lengths []int, l ...run) *maker {
	for _, r := range l {
		m.symbol(lengths, r.symbol)
		if r.symbol >= 16 {
			m.num(r.more, []int{2, 3, 7}[r.symbol-16])
		}
	}
	return m
}

// singly answers lengths without any that is repeated.
func singly(lengths ...int) []run {
	var l []run
	for _, n := range lengths {
		l = append(l, run{symbol: n})
	}
	return l
}

// dynamic begins a block with these codes.
func (m *maker) dynamic(last int, lit, dist []int) *maker {
	m.lit, m.dist = lit, dist
	return m.head(last, len(lit), len(dist), even()).runs(even(), singly(append(slices.Clone(lit), dist...)...)...)
}

// places answers where a stream is cut: everywhere, if it is not too long.
func places(size int) []int {
	var l []int
	for i := 0; i < size; i += 1 + size/500 {
		l = append(l, i)
	}
	return l
}

// wantOne asks one Inflate.
func wantOne(t *testing.T, b []byte, most int, text string, took int, e api.Errno) {
	t.Helper()
	given := slices.Clone(b)
	gotB, gotTook, gotE := inflate.Inflate(b, most)
	if string(gotB) != text || gotTook != took || gotE != e {
		t.Fatalf("Inflate(%.60x.., %d): %.60q.. (%d), %d, %d, not %.60q.. (%d), %d, %d", b, most, gotB, len(gotB), gotTook, gotE, text, len(text), took, e)
	}
	if !bytes.Equal(b, given) {
		t.Fatalf("Inflate(%.60x..) changed it", given)
	}
}

// wantText asks for the text of a stream that takes all of b; for ErrEnd, wherever it is cut (P303); and for the same, whatever stands behind it (P303).
func wantText(t *testing.T, b []byte, most int, text string) {
	t.Helper()
	wantOne(t, b, most, text, len(b), api.OK)
	for _, i := range places(len(b)) {
		wantOne(t, b[:i], most, "", 0, api.ErrEnd)
	}
	for _, behind := range []string{"\x00", "\xff", "\x55\xaa\x55\xaa\x55\xaa\x55\xaa", string(b)} {
		wantOne(t, slices.Concat(b, []byte(behind)), most, text, len(b), api.OK)
	}
}

// wantError asks for an error; for it or ErrEnd, wherever the stream is cut (P303); and for the same, whatever stands behind, unless that mends it.
func wantError(t *testing.T, b []byte, most int, e api.Errno) {
	t.Helper()
	wantOne(t, b, most, "", 0, e)
	met := false
	for _, i := range places(len(b)) {
		if _, _, got := inflate.Inflate(b[:i], most); got != e && (got != api.ErrEnd || met) {
			t.Fatalf("Inflate(%.60x.., %d): %d, and %d behind %d bytes", b, most, e, got, i)
		} else if got == e {
			met = true
		}
	}
	for _, behind := range []string{"\x00", "\xff", "\x55\xaa\x55\xaa\x55\xaa\x55\xaa"} {
		if e != api.ErrEnd {
			wantOne(t, slices.Concat(b, []byte(behind)), most, "", 0, e)
		}
	}
}

// wantErrorAtOnce asks for an error that is met at the last bit, a whole byte's last: a byte less has ErrEnd.
func wantErrorAtOnce(t *testing.T, m *maker, most int, e api.Errno) {
	t.Helper()
	if m.Len()%8 != 0 {
		t.Fatalf("%d bits: no byte's end", m.Len())
	}
	b := m.Done()
	wantError(t, b, most, e)
	wantError(t, b[:len(b)-1], most, api.ErrEnd)
}

// P301: the chapter's examples.
func TestExamples(t *testing.T) {
	wantText(t, []byte{0x4b, 0x04, 0x00}, 9, "a")
	wantText(t, []byte{1, 1, 0, 0xfe, 0xff, 'a'}, 9, "a")
	wantError(t, []byte{7}, 9, api.ErrData)
	wantError(t, nil, 9, api.ErrEnd)
	wantError(t, []byte{}, 9, api.ErrEnd)
}

// P301: a most below 0 is asked ahead of everything.
func TestMostBelowZero(t *testing.T) {
	for _, most := range []int{-1, -2, math.MinInt} {
		for _, b := range [][]byte{nil, {7}, {3, 0}, {0x4b, 0x04, 0x00}, {1, 1, 0, 0, 0}} {
			wantError(t, b, most, api.ErrArg)
		}
	}
}

// P301: stored blocks begin at a whole byte, whatever the bits passed over are; one of no bytes is a block, too.
func TestStored(t *testing.T) {
	for _, most := range []int{11, 12, plenty, math.MaxInt} {
		wantText(t, begin().stored(1, "Hello there").Done(), most, "Hello there")
		wantText(t, begin().stored(0, "Hello").stored(0, "").stored(0, " ").stored(1, "there").Done(), most, "Hello there")
	}
	for _, most := range []int{0, 1, math.MaxInt} {
		wantText(t, begin().stored(1, "").Done(), most, "")
		wantText(t, begin().stored(0, "").stored(1, "").Done(), most, "")
	}
	wantText(t, begin().num(0xf9, 8).num(2, 16).num(0xfffd, 16).num('h', 8).num('i', 8).Done(), 2, "hi")
	wantText(t, begin().fixed(0).text("\xc8\xc8").end().stored(1, "yes").Done(), 5, "\xc8\xc8yes")
	long := strings.Repeat("0123456", 9362) + "!"
	if len(long) != 65535 {
		t.Fatal("not the longest block")
	}
	wantText(t, begin().stored(1, long).Done(), 65535, long)
	wantText(t, begin().stored(0, long).stored(1, long).Done(), 131070, long+long)
}

// P301: a stored block's numbers do not fit together, by any bit; asked ahead of how many may come.
func TestStoredNumbers(t *testing.T) {
	for bit := range 32 {
		b := begin().stored(1, "abc").Done()
		b[1+bit/8] ^= 1 << (bit % 8)
		for _, most := range []int{0, 2, 3, plenty} {
			wantError(t, b, most, api.ErrData)
			wantError(t, b[:5], most, api.ErrData)
			wantError(t, b[:4], most, api.ErrEnd)
		}
	}
	wantError(t, []byte{1, 0, 0, 0, 0}, plenty, api.ErrData)
	wantError(t, []byte{1, 0xff, 0xff, 0xff, 0xff}, plenty, api.ErrData)
	wantError(t, []byte{1, 0xff, 0xff, 0, 0}, 65535, api.ErrEnd)
}

// P301: fixed blocks, with all bytes, lengths and distances there are.
func TestFixed(t *testing.T) {
	wantText(t, begin().fixed(1).end().Done(), 0, "")
	all := ""
	for b := range 256 {
		all += string([]byte{byte(b)})
	}
	wantText(t, begin().fixed(1).text(all).end().Done(), 256, all)
	for length := 3; length <= 258; length++ {
		m := begin().fixed(1).text("abcde").copy(length, 5).text("!").end()
		wantText(t, m.Done(), plenty, strings.Repeat("abcde", 53)[:5+length]+"!")
	}
	wantText(t, begin().fixed(1).text("z").literal(284).num(31, 5).far(1).end().Done(), 259, strings.Repeat("z", 259)) // 258, told the long way
}

// P301: each distance's least and greatest number, just at the beginning, and one behind it.
func TestDistances(t *testing.T) {
	chance := rand.New(rand.NewSource(3))
	noise := make([]byte, 40000)
	chance.Read(noise)
	for i, base := range distBase {
		for _, distance := range []int{base, base + 1<<distExtra[i] - 1} {
			ahead := string(noise[:distance])
			m := begin().stored(0, ahead).fixed(1).copy(3, distance).end()
			want := ahead + (ahead + ahead + ahead)[:3]
			wantOne(t, m.Done(), distance+3, want, len(m.Done()), api.OK)
			m = begin().stored(0, ahead[1:]).fixed(1).copy(3, distance).end()
			wantOne(t, m.Done(), plenty, "", 0, api.ErrData)
			m = begin().stored(0, ahead+"more").fixed(1).copy(258, distance).end()
			wantOne(t, m.Done(), plenty, model(ahead+"more", 258, distance), len(m.Done()), api.OK)
		}
	}
}

// model answers text with a copy of its own bytes behind it.
func model(text string, length, distance int) string {
	b := []byte(text)
	for range length {
		b = append(b, b[len(b)-distance])
	}
	return string(b)
}

// P301: a copy that goes over itself, and copies from the block before.
func TestCopies(t *testing.T) {
	wantText(t, begin().fixed(1).text("a").copy(10, 1).end().Done(), 11, strings.Repeat("a", 11))
	wantText(t, begin().fixed(1).text("abc").copy(8, 3).copy(4, 11).end().Done(), 15, "abcabcabcababca")
	wantText(t, begin().fixed(1).text("abc").copy(3, 3).end().Done(), 6, "abcabc")
	wantText(t, begin().stored(0, "xyz").fixed(0).copy(4, 3).end().fixed(1).copy(5, 7).end().Done(), 12, "xyzxyzxxyzxy")
	wantError(t, begin().fixed(1).copy(3, 1).end().Done(), plenty, api.ErrData)
	wantError(t, begin().fixed(1).text("ab").copy(3, 3).end().Done(), plenty, api.ErrData)
	wantError(t, begin().fixed(0).text("ab").end().fixed(1).copy(258, 32768).end().Done(), plenty, api.ErrData)
}

// evenly answers lengths of n symbols that are right, and as alike as can be.
func evenly(n int) []int {
	k := 1
	for 2<<k <= n {
		k++
	}
	return append(repeat(k, min(n, 2<<k-n)), repeat(k+1, max(0, 2*n-2<<k))...)
}

// small are literals' lengths of the bytes a and b, of the end, and of the lengths 3 to 5: full.
func small() []int {
	l := make([]int, 260)
	l['a'], l['b'], l[256], l[257], l[258], l[259] = 2, 2, 2, 3, 4, 4
	return l
}

// P301: dynamic blocks.
func TestDynamic(t *testing.T) {
	wantText(t, begin().dynamic(1, small(), []int{1, 1}).text("abba").end().Done(), 4, "abba")
	wantText(t, begin().dynamic(1, small(), []int{1, 1}).text("ab").copy(5, 2).copy(3, 1).text("b").end().Done(), 11, "abababaaaab")
}

// P301: several blocks of all kinds in one stream; a stream without its last block has not ended.
func TestSeveralBlocks(t *testing.T) {
	m := begin().stored(0, "ab").dynamic(0, small(), []int{1, 1}).copy(4, 2).end().fixed(0).copy(4, 1).text("c").end()
	m.stored(0, "").dynamic(0, small(), []int{1}).end()
	wantError(t, m.Done(), plenty, api.ErrEnd)
	wantText(t, m.fixed(1).copy(3, 11).end().Done(), 14, "abababbbbbcaba")
	for _, m := range []*maker{begin().stored(0, "a"), begin().fixed(0).end(), begin().dynamic(0, small(), []int{1}).end()} {
		wantError(t, m.Done(), plenty, api.ErrEnd)
	}
}

// P301: up to 286 literals' and 30 distances' lengths; more are met as soon as the three numbers are read.
func TestHowManyLengths(t *testing.T) {
	for lits := 257; lits <= 288; lits++ {
		for dists := 1; dists <= 32; dists++ {
			if lits > 286 || dists > 30 {
				wantErrorAtOnce(t, lead(17).num(1, 1).num(2, 2).num(lits-257, 5).num(dists-1, 5).num(0, 4), plenty, api.ErrData)
				wantError(t, lead(13).num(1, 1).num(2, 2).num(lits-257, 5).num(dists-1, 5).Done(), plenty, api.ErrEnd)
				continue
			}
			b := begin().dynamic(1, evenly(lits), evenly(dists)).text("\x00\x7f\xff").end().Done()
			wantOne(t, b, 3, "\x00\x7f\xff", len(b), api.OK)
		}
	}
	m := begin().stored(0, strings.Repeat("ab", 16000)).dynamic(1, evenly(286), evenly(30)).literal(285).far(32000).end()
	wantText(t, m.Done(), plenty, strings.Repeat("ab", 16129))
}

// P301: how many of the code lengths' lengths are told: 4 to 19 of them.
func TestHowManyCodeLengths(t *testing.T) {
	for many := 4; many <= len(order); many++ {
		lengths := make([]int, len(order))
		lengths[18] = 1 // zeros
		lengths[order[many-1]] = 1
		if many <= 4 {
			lengths[18], lengths[0], lengths[16], lengths[17] = 2, 2, 2, 2
		}
		m := begin().head(1, 257, 1, lengths)
		if m.Len() != 17+3*many {
			t.Fatalf("%d bits of %d lengths", m.Len(), many)
		}
		only := order[many-1] // all there is beside zeros
		switch {
		case only == 1: // 256 alone, and no distance
			lit := with(make([]int, 257), 256, 1)
			wantText(t, m.runs(lengths, run{18, 127}, run{18, 107}, run{symbol: 1}, run{symbol: 1}).symbol(lit, 256).Done(), 0, "")
		case only >= 2 && only <= 15: // 256 has a length that is not right alone
			wantError(t, m.runs(lengths, run{18, 127}, run{18, 107}, run{symbol: only}, run{symbol: only}).Done(), plenty, api.ErrCode)
		default: // 256 has no length
			wantError(t, m.runs(lengths, run{18, 127}, run{18, 109}).Done(), plenty, api.ErrData)
		}
	}
}

// P301: the code lengths' lengths must be full, asked as soon as they are read; one of 1 bit alone is right, but not full.
func TestCodeLengthsNotFull(t *testing.T) {
	none := make([]int, 19)
	for _, lengths := range [][]int{
		none, with(none, 0, 1), with(none, 18, 1), with(none, 5, 7), with(with(none, 1, 2), 18, 2), with(even(), 3, 0),
		with(even(), 18, 4), with(even(), 0, 3), repeat(1, 19), repeat(7, 19), with(with(with(none, 1, 1), 2, 1), 3, 1),
	} {
		if huff.Full(lengths) {
			t.Fatalf("%v are full", lengths)
		}
		size := begin().head(1, 257, 1, lengths).Len()
		wantErrorAtOnce(t, lead(size).head(1, 257, 1, lengths), plenty, api.ErrCode)
		wantErrorAtOnce(t, lead(size).head(1, 286, 30, lengths), plenty, api.ErrCode)
	}
	wantErrorAtOnce(t, lead(17).num(1, 1).num(2, 2).num(30, 5).num(0, 5).num(0, 4), plenty, api.ErrData) // how many is asked ahead
}

// at begins a dynamic block behind another one, so that a byte ends behind these runs.
func at(lits, dists int, l ...run) *maker {
	size := begin().head(1, lits, dists, even()).runs(even(), l...).Len()
	return lead(size).head(1, lits, dists, even()).runs(even(), l...)
}

// zeros answers runs of n zeros, 139 to 276.
func zeros(n int) []run { return []run{{18, 127}, {18, n - 149}} }

// P301: nothing to repeat; it is met as soon as the symbol is read.
func TestNothingToRepeat(t *testing.T) {
	for more := range 4 {
		wantError(t, at(257, 1, run{16, more}).Done(), plenty, api.ErrData)
	}
	size := begin().head(1, 257, 1, even()).Len() + even()[16]
	wantErrorAtOnce(t, lead(size).head(1, 257, 1, even()).symbol(even(), 16), plenty, api.ErrData)
}

// wantFilled asks for a row that a last run just fills, and for one that is a length shorter.
func wantFilled(t *testing.T, lit []int, dists int, l ...run) {
	t.Helper()
	m := begin().head(1, len(lit), dists, even()).runs(even(), l...)
	m.lit = lit
	first := slices.IndexFunc(lit, func(n int) bool { return n > 0 })
	wantText(t, m.literal(first).literal(first).end().Done(), 2, string([]byte{byte(first), byte(first)}))
	if dists > 1 {
		wantError(t, at(len(lit), dists-1, l...).Done(), plenty, api.ErrData)
	} else {
		wantError(t, at(len(lit)-1, dists, l...).Done(), plenty, api.ErrData)
	}
}

// P301: a run that just fills the row, and one that goes beyond it, of all kinds, also over the border of literals and distances.
func TestRunsAtTheEndOfTheRow(t *testing.T) {
	lit := make([]int, 257)
	lit[0], lit[256] = 1, 1
	ahead := slices.Concat(singly(1), zeros(255), singly(1))
	more := append(slices.Clone(lit), 0, 0, 0)
	for n := range 8 {
		wantFilled(t, lit, 3+n, append(ahead, run{17, n})...)
		if n > 0 {
			wantFilled(t, more, n, append(ahead, run{17, n})...)
		}
		if n < 4 {
			wantFilled(t, lit, 4+n, append(ahead, run{symbol: 0}, run{16, n})...)
			wantFilled(t, more, 1+n, append(ahead, run{symbol: 0}, run{16, n})...)
			wantFilled(t, lit, 6+n, append(ahead, run{17, 0}, run{16, n})...) // zeros that came by a run are repeated, too
		}
	}
	for n := range 20 {
		wantFilled(t, lit, 11+n, append(ahead, run{18, n})...)
		wantFilled(t, more, 8+n, append(ahead, run{18, n})...)
	}
	wantFilled(t, append(make([]int, 255), 1, 1), 2, append(zeros(255), run{symbol: 1}, run{16, 0})...)
}

// P301: runs of every length, in the middle of a row, tell the codes that they are.
func TestRuns(t *testing.T) {
	for n := range 128 {
		lit := make([]int, 257) // n zeros and 11, a length 1, zeros, the end
		lit[n+11], lit[256] = 1, 1
		m := begin().head(1, 257, 1, even()).runs(even(), run{18, n}, run{symbol: 1}).runs(even(), singly(lit[n+12:]...)...).runs(even(), run{symbol: 1})
		m.lit = lit
		wantText(t, m.literal(n+11).end().Done(), 1, string([]byte{byte(n + 11)}))
	}
	for n := range 8 {
		lit := make([]int, 257)
		lit[n+3], lit[256] = 1, 1
		m := begin().head(1, 257, 1, even()).runs(even(), run{17, n}, run{symbol: 1}).runs(even(), singly(lit[n+4:]...)...).runs(even(), run{symbol: 0})
		m.lit = lit
		wantText(t, m.literal(n+3).end().Done(), 1, string([]byte{byte(n + 3)}))
	}
	for n := range 4 {
		lit := make([]int, 257) // 4 and n lengths 3, then so many that the codes are full
		for i := range 7 {
			lit[i] = 3
		}
		lit[256] = 3
		rest := slices.Concat(lit[4+n:], []int{1})
		m := begin().head(1, 257, 1, even()).runs(even(), run{symbol: 3}, run{16, n}).runs(even(), singly(rest...)...)
		m.lit = lit
		wantText(t, m.text("\x00\x06\x03").end().Done(), 3, "\x00\x06\x03")
	}
}

// P301: no length for 256 is asked when the row is read, ahead of what else is wrong with the lengths.
func TestNoEnd(t *testing.T) {
	for _, l := range [][]run{
		slices.Concat(singly(1, 1), zeros(255), singly(1)),    // right
		slices.Concat(singly(1), zeros(256), singly(0)),       // right
		slices.Concat(zeros(257), singly(1)),                  // right, none
		slices.Concat(singly(1, 1, 1), zeros(254), singly(1)), // not right
		slices.Concat(singly(2), zeros(256), singly(2)),       // not right, neither
	} {
		wantErrorAtOnce(t, at(257, 1, l...), plenty, api.ErrData)
	}
	l := slices.Concat(singly(1, 1), zeros(255))
	wantError(t, at(257, 1, l...).Done(), plenty, api.ErrEnd) // the row goes on
	wantError(t, at(257, 2, append(l, run{17, 0})...).Done(), plenty, api.ErrData)
}

// P301: lengths that are not right, of the literals and of the distances, are met at the end of the row.
func TestLengthsNotRight(t *testing.T) {
	for _, lit := range [][]int{{1, 1, 1}, {2, 2}, {2}, {15}, {1, 2}, {1, 2, 3}, {1, 2, 2, 15}} {
		row := slices.Concat(singly(lit[1:]...), zeros(257-len(lit)), singly(lit[0], 1)) // the first one is that of 256
		wantErrorAtOnce(t, at(257, 1, row...), plenty, api.ErrCode)
	}
	for _, dist := range [][]int{{1, 1, 1}, {2}, {15}, {2, 2}, {0, 0, 3}, {1, 2, 3}, {1, 2, 2, 15}, repeat(4, 17), repeat(5, 30)} {
		row := slices.Concat(singly(1), zeros(255), singly(1), singly(dist...))
		wantErrorAtOnce(t, at(257, len(dist), row...), plenty, api.ErrCode)
	}
}

// few are literals' lengths of the byte x, of the end, and of the lengths 3 and 4: full.
func few() []int {
	l := make([]int, 259)
	l['x'], l[256], l[257], l[258] = 2, 2, 2, 2
	return l
}

// dynamicAt begins a dynamic block with two literals x behind another one, so that a byte ends n bits behind.
func dynamicAt(lit, dist []int, n int) *maker {
	size := begin().dynamic(1, lit, dist).text("xx").Len() + n
	return lead(size).dynamic(1, lit, dist).text("xx")
}

// P301: a distances' code of one symbol, and of none: they are right, but a bit 1, or any wish for one, is no code.
func TestDistancesOfFewSymbols(t *testing.T) {
	for _, dist := range [][]int{{1}, {1, 0, 0}} {
		m := begin().dynamic(1, few(), dist)
		wantText(t, m.text("x").copy(4, 1).copy(3, 1).end().Done(), 8, "xxxxxxxx")
		wantErrorAtOnce(t, dynamicAt(few(), dist, 3).length(3).num(1, 1), plenty, api.ErrCode)
	}
	m := begin().dynamic(1, few(), []int{0, 0, 1})
	wantText(t, m.text("xxx").copy(4, 3).end().Done(), 7, "xxxxxxx")
	for _, dist := range [][]int{{0}, {0, 0}, make([]int, 30)} {
		m := begin().dynamic(1, few(), dist)
		wantText(t, m.text("xxx").end().Done(), 3, "xxx")
		wantErrorAtOnce(t, dynamicAt(few(), dist, 2).length(3), plenty, api.ErrCode)
	}
}

// P301: bits that are no code of the literals: the end alone has one.
func TestLiteralsOfOneSymbol(t *testing.T) {
	lit := with(make([]int, 257), 256, 1)
	wantText(t, begin().dynamic(1, lit, []int{0}).end().Done(), 0, "")
	size := begin().dynamic(1, lit, []int{0}).Len()
	wantErrorAtOnce(t, lead(size+1).dynamic(1, lit, []int{0}).num(1, 1), plenty, api.ErrCode)
}

// fixedAt begins a fixed block such that a byte ends n bits behind what it has so far.
func fixedAt(n int) *maker {
	m := begin().fixed(1)
	for (m.Len()+n)%8 != 0 {
		m.text("\xc8")
	}
	return m
}

// fillers answers how many bytes fixedAt(n) tells.
func fillers(n int) int { return (fixedAt(n).Len() - 3) / 9 }

// P301: symbols that mean nothing are met as soon as they are read.
func TestSymbolsThatMeanNothing(t *testing.T) {
	for _, symbol := range []int{286, 287} {
		for _, most := range []int{7, plenty} {
			wantErrorAtOnce(t, fixedAt(8).literal(symbol), most, api.ErrData)
		}
	}
	for _, symbol := range []int{30, 31} {
		wantErrorAtOnce(t, fixedAt(12).length(3).distance(symbol), plenty, api.ErrData)
		wantErrorAtOnce(t, fixedAt(13).literal(285).distance(symbol), 7, api.ErrData)
	}
}

// P301: a distance behind the beginning is met behind its extra bits.
func TestDistanceBehindTheBeginning(t *testing.T) {
	wantErrorAtOnce(t, fixedAt(12+13).length(3).far(32768), plenty, api.ErrData)
	wantErrorAtOnce(t, fixedAt(12+13).length(3).far(24577), plenty, api.ErrData)
	wantError(t, fixedAt(12).length(3).distance(29).Done(), plenty, api.ErrEnd)
	wantError(t, fixedAt(12+8).length(3).distance(29).num(0, 8).Done(), plenty, api.ErrEnd)
}

// P301: a byte too many is met as it comes.
func TestTooManyBytes(t *testing.T) {
	b := begin().fixed(1).text("abcd").end().Done()
	wantText(t, b, 4, "abcd")
	for most := range 4 {
		wantError(t, b, most, api.ErrBig)
	}
	wantError(t, begin().fixed(0).text("abcd").end().Done(), 3, api.ErrBig) // ahead of the end
	wantErrorAtOnce(t, fixedAt(9).text("\xc8"), fillers(9), api.ErrBig)
	b = begin().fixed(0).text("ab").end().num(7, 3).Done()
	wantError(t, b, 1, api.ErrBig)
	wantError(t, b, 2, api.ErrData)
}

// P301: a stored block too many is met ahead of its bytes, behind its numbers.
func TestTooManyStored(t *testing.T) {
	b := begin().stored(0, "ab").stored(1, "cdef").Done()
	wantText(t, b, 6, "abcdef")
	wantText(t, b, 7, "abcdef")
	for most := range 6 {
		wantError(t, b, most, api.ErrBig)
	}
	wantError(t, b[:12], 5, api.ErrBig) // none of its bytes is there
	wantError(t, b[:11], 5, api.ErrEnd)
	wantError(t, b[:12], 6, api.ErrEnd)
	wantError(t, b[:5], 1, api.ErrBig)
	wantError(t, b[:4], 1, api.ErrEnd)
	wantError(t, []byte{1, 0xff, 0xff, 0, 0}, 65534, api.ErrBig)
	b[10]++
	wantError(t, b, 5, api.ErrData)
	wantText(t, begin().stored(0, "ab").stored(0, "").fixed(0).end().stored(1, "").Done(), 2, "ab") // nothing is never too much
}

// P301: a copy too many is met behind its distance's errors, ahead of its bytes.
func TestTooManyCopied(t *testing.T) {
	b := begin().fixed(1).text("ab").copy(10, 2).end().Done()
	wantText(t, b, 12, "abababababab")
	for most := range 12 {
		wantError(t, b, most, api.ErrBig)
	}
	wantErrorAtOnce(t, fixedAt(12).copy(3, 1), fillers(12)+2, api.ErrBig)
	wantError(t, fixedAt(7).length(3).Done(), fillers(7), api.ErrEnd)                                      // no distance yet
	wantError(t, fixedAt(12+13).length(3).far(32768).Done(), fillers(12+13)+2, api.ErrData)                // behind the beginning
	wantError(t, fixedAt(12).length(3).distance(30).Done(), fillers(12), api.ErrData)                      // none
	wantError(t, begin().dynamic(1, few(), []int{1}).text("x").length(3).num(1, 1).Done(), 1, api.ErrCode) // no code
	wantError(t, begin().dynamic(1, few(), []int{0}).text("x").length(3).Done(), 1, api.ErrCode)
	wantError(t, begin().fixed(0).text("a").copy(258, 1).end().num(7, 3).Done(), 258, api.ErrBig)
	wantError(t, begin().fixed(0).text("a").copy(258, 1).end().num(7, 3).Done(), 259, api.ErrData)
}

// P301: the kind 3, wherever it stands, as soon as it is read.
func TestKindThree(t *testing.T) {
	for _, b := range [][]byte{{6}, {7}, {0xfe}, {0xff}} {
		wantErrorAtOnce(t, begin().num(int(b[0]), 8), 0, api.ErrData)
	}
	wantErrorAtOnce(t, lead(3).num(6, 3), plenty, api.ErrData)
	wantErrorAtOnce(t, begin().stored(0, "a").num(7, 8), 1, api.ErrData)
	for n := range 3 { // less than a block's first three bits
		b := lead(n).num(7, n).Done()
		wantOne(t, b, plenty, "", 0, api.ErrEnd)
	}
}

// P301: the last byte that was begun is taken, one behind it never.
func TestTaken(t *testing.T) {
	for n := range 17 {
		text := strings.Repeat("\xc8", n)
		m := begin().fixed(1).text(text).end()
		if got := (10 + 9*n + 7) / 8; got != len(m.Done()) {
			t.Fatalf("%d bytes of %d literals", len(m.Done()), n)
		}
		wantText(t, m.Done(), n, text)
		ones := m.Done() // what the rest of the last byte has does not matter
		ones[len(ones)-1] |= byte(0xff << ((m.Len()-1)%8 + 1))
		wantText(t, ones, n, text)
	}
	two := begin().fixed(1).text("ab").end().Done()
	wantOne(t, slices.Concat(two, two), 2, "ab", len(two), api.OK)
}

// P302: every symbol of Lit and Dist, and those that are none.
func TestLitAndDist(t *testing.T) {
	want := func(what string, f func(int) (int, int, bool), sym, base, extra int, ok bool) {
		t.Helper()
		if b, e, o := f(sym); b != base || e != extra || o != ok {
			t.Errorf("%s(%d): %d, %d, %v, not %d, %d, %v", what, sym, b, e, o, base, extra, ok)
		}
	}
	for i := range lengthBase {
		want("Lit", inflate.Lit, 257+i, lengthBase[i], lengthExtra[i], true)
	}
	for i := range distBase {
		want("Dist", inflate.Dist, i, distBase[i], distExtra[i], true)
	}
	for sym := -300; sym < 600; sym++ {
		if sym < 257 || sym > 285 {
			want("Lit", inflate.Lit, sym, 0, 0, false)
		}
		if sym < 0 || sym > 29 {
			want("Dist", inflate.Dist, sym, 0, 0, false)
		}
	}
	for _, sym := range []int{math.MinInt, math.MinInt + 257, math.MaxInt, math.MaxInt - 257} {
		want("Lit", inflate.Lit, sym, 0, 0, false)
		want("Dist", inflate.Dist, sym, 0, 0, false)
	}
}

// P302: the fixed lengths, anew each time.
func TestFixedLengths(t *testing.T) {
	for range 2 {
		lit, dist := inflate.FixedLit(), inflate.FixedDist()
		if !slices.Equal(lit, fixedLit()) || !slices.Equal(dist, fixedDist()) {
			t.Fatalf("FixedLit: %v, FixedDist: %v", lit, dist)
		}
		for _, l := range [][]int{lit[:cap(lit)], dist[:cap(dist)]} {
			for i := range l {
				l[i] = 99
			}
		}
	}
}

// Rule 4: what is handed out is new memory; the same bytes tell the same again.
func TestSharesNothing(t *testing.T) {
	for _, m := range []*maker{begin().stored(1, "stored"), begin().fixed(1).text("stored").end(), begin().stored(0, "sto").stored(1, "red")} {
		room := append(m.Done(), "behind"...)
		kept := slices.Clone(room)
		b := room[:len(room)-6]
		first, _, _ := inflate.Inflate(b, 6)
		full := first[:cap(first)]
		for i := range full {
			full[i] = 0xdd
		}
		wantOne(t, b, 6, "stored", len(b), api.OK)
		if !bytes.Equal(room, kept) {
			t.Errorf("what was given is changed: %x, not %x", room, kept)
		}
	}
}

// someTexts answers texts of many kinds.
func someTexts() []string {
	chance := rand.New(rand.NewSource(301))
	noise := make([]byte, 70000)
	chance.Read(noise)
	var made strings.Builder
	for made.Len() < 100000 {
		made.WriteString([]string{"row", "cell", " ", "sheet", "<c r=\"A1\"/>", "12", "\n"}[chance.Intn(7)])
	}
	words := made.String()
	skew := make([]byte, 30000)
	for i := range skew {
		skew[i] = byte(chance.ExpFloat64() * 6)
	}
	return []string{"", "a", "aaaaaaaaaaaaaaaa", "Hello, hello!", words, words[:1000], string(noise), string(skew), strings.Repeat("\x00", 100000), strings.Repeat(words[:40000], 3)}
}

// squeezed answers what another maker of streams writes, with a block's end in the middle.
func squeezed(t *testing.T, text string, level int) []byte {
	t.Helper()
	var b bytes.Buffer
	w, err := flate.NewWriter(&b, level)
	if err != nil {
		t.Fatal(err)
	}
	io.WriteString(w, text[:len(text)/2])
	w.Flush()
	io.WriteString(w, text[len(text)/2:])
	w.Close()
	return b.Bytes()
}

// P301, P303: streams of another maker.
func TestStreamsOfAnotherMaker(t *testing.T) {
	for _, text := range someTexts() {
		for _, level := range []int{flate.HuffmanOnly, 0, 1, 5, 9} {
			b := squeezed(t, text, level)
			wantOne(t, b, len(text), text, len(b), api.OK)
			wantOne(t, append(slices.Clone(b), 1, 2, 3), math.MaxInt, text, len(b), api.OK)
			if len(text) > 0 {
				wantOne(t, b, len(text)-1, "", 0, api.ErrBig)
			}
			for _, i := range []int{0, 1, len(b) / 3, len(b) / 2, len(b) - 1} {
				wantOne(t, b[:i], len(text), "", 0, api.ErrEnd)
			}
		}
	}
}

// P301, rule 1: streams with wrong bits end with an error, or tell what another reader reads in them.
func TestWrongBits(t *testing.T) {
	chance := rand.New(rand.NewSource(302))
	for _, text := range []string{"", "Hello, hello!", someTexts()[5], someTexts()[7][:2000]} {
		for _, level := range []int{flate.HuffmanOnly, 0, 1, 9} {
			right := squeezed(t, text, level)
			for range 300 {
				b := slices.Clone(right)
				for range 1 + chance.Intn(3) {
					b[chance.Intn(len(b))] ^= 1 << chance.Intn(8)
				}
				wantAsRead(t, b)
			}
		}
	}
	for range 20000 {
		b := make([]byte, chance.Intn(60))
		chance.Read(b)
		wantAsRead(t, b)
	}
}

// wantAsRead holds an Inflate without an error against another reader; with one, its errors must be the right ones for a stream.
func wantAsRead(t *testing.T, b []byte) {
	t.Helper()
	got, took, e := inflate.Inflate(b, plenty)
	if e != api.OK {
		if e != api.ErrEnd && e != api.ErrCode && e != api.ErrData || len(got) > 0 || took != 0 {
			t.Fatalf("Inflate(%x): %d bytes, %d, %d", b, len(got), took, e)
		}
		return
	}
	in := bytes.NewReader(b)
	want, err := io.ReadAll(flate.NewReader(in))
	if err != nil || !bytes.Equal(got, want) || took != len(b)-in.Len() {
		t.Fatalf("Inflate(%x): %d bytes, %d, not %d, %d, %v", b, len(got), took, len(want), len(b)-in.Len(), err)
	}
}

// someLengths answers lengths that are full, of which the wanted symbols have one.
func someLengths(chance *rand.Rand, size int, wanted ...int) []int {
	l := make([]int, size)
	free := chance.Perm(size)
	free = slices.DeleteFunc(free, func(i int) bool { return slices.Contains(wanted, i) })
	symbols := append(slices.Clone(wanted), free[:max(2-len(wanted), chance.Intn(len(free)+1))]...)
	l[symbols[0]], l[symbols[1]] = 1, 1
	for i := 2; i < len(symbols); i++ {
		split := symbols[chance.Intn(i)]
		for l[split] == huff.MaxBits {
			split = symbols[chance.Intn(i)]
		}
		l[split]++
		l[symbols[i]] = l[split]
	}
	return l
}

// shorten answers runs that tell a row, by chance with repeats or without.
func shorten(chance *rand.Rand, row []int) []run {
	var l []run
	for i := 0; i < len(row); {
		same := 1
		for i+same < len(row) && row[i+same] == row[i] {
			same++
		}
		r, n := run{symbol: row[i]}, 1
		switch pick := chance.Intn(4); {
		case pick == 0 && row[i] == 0 && same >= 11:
			n = 11 + chance.Intn(min(same, 138)-10)
			r = run{18, n - 11}
		case pick <= 1 && row[i] == 0 && same >= 3:
			n = 3 + chance.Intn(min(same, 10)-2)
			r = run{17, n - 3}
		case pick <= 2 && i > 0 && row[i-1] == row[i] && same >= 3:
			n = 3 + chance.Intn(min(same, 6)-2)
			r = run{16, n - 3}
		}
		l = append(l, r)
		i += n
	}
	return l
}

// someSymbols writes literals and copies of a block by chance, and answers the text with them behind.
func (m *maker) someSymbols(chance *rand.Rand, text string) string {
	for range chance.Intn(40) {
		symbol, far := chance.Intn(286), chance.Intn(30)
		if m.lit[symbol] == 0 || symbol == 256 {
			continue
		}
		if symbol < 256 {
			m.literal(symbol)
			text += string([]byte{byte(symbol)})
			continue
		}
		if far >= len(m.dist) || m.dist[far] == 0 || distBase[far]+1<<distExtra[far]-1 > len(text) {
			continue
		}
		more, farther := chance.Intn(1<<lengthExtra[symbol-257]), chance.Intn(1<<distExtra[far])
		m.literal(symbol).num(more, lengthExtra[symbol-257]).distance(far).num(farther, distExtra[far])
		text = model(text, lengthBase[symbol-257]+more, distBase[far]+farther)
	}
	return text
}

// P301, P303: streams of blocks of all kinds, with codes, runs and symbols by chance that is the same each time.
func TestStreamsByChance(t *testing.T) {
	chance := rand.New(rand.NewSource(303))
	for range 300 {
		m, text := begin(), ""
		for blocks := chance.Intn(4); blocks >= 0; blocks-- {
			last := map[bool]int{true: 1}[blocks == 0]
			switch chance.Intn(4) {
			case 0:
				more := "Hello, hello!"[:chance.Intn(14)]
				m.stored(last, more)
				text += more
				continue
			case 1:
				m.fixed(last)
			default:
				m.lit = append(someLengths(chance, 257+chance.Intn(29), 256), make([]int, 29)...)[:286]
				m.dist = someLengths(chance, 2+chance.Intn(29))
				lengths := someLengths(chance, 19, 0, 1, 2, 3, 4, 5, 6, 7, 8, 9, 10, 11, 12, 13, 14, 15, 16, 17, 18)
				for slices.Max(lengths) > 7 {
					lengths = someLengths(chance, 19, 0, 1, 2, 3, 4, 5, 6, 7, 8, 9, 10, 11, 12, 13, 14, 15, 16, 17, 18)
				}
				m.head(last, len(m.lit), len(m.dist), lengths).runs(lengths, shorten(chance, slices.Concat(m.lit, m.dist))...)
			}
			text = m.someSymbols(chance, text)
			m.end()
		}
		b := m.Done()
		wantText(t, b, len(text), text)
		if len(text) > 0 {
			wantOne(t, b, len(text)-1, "", 0, api.ErrBig)
		}
	}
}
