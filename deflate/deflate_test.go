package deflate_test

import (
	"bytes"
	"compress/flate"
	"fmt"
	"io"
	"math"
	"math/rand"
	"slices"
	"strings"
	"testing"

	"quire/api"
	"quire/bits"
	"quire/deflate"
	"quire/huff"
	"quire/inflate"
)

// RFC 1951's tables, written out, for a reader that tells what a stream is made of.
var (
	lengthBase  = []int{3, 4, 5, 6, 7, 8, 9, 10, 11, 13, 15, 17, 19, 23, 27, 31, 35, 43, 51, 59, 67, 83, 99, 115, 131, 163, 195, 227, 258}
	lengthExtra = []int{0, 0, 0, 0, 0, 0, 0, 0, 1, 1, 1, 1, 2, 2, 2, 2, 3, 3, 3, 3, 4, 4, 4, 4, 5, 5, 5, 5, 0}
	distExtra   = []int{0, 0, 0, 0, 1, 1, 2, 2, 3, 3, 4, 4, 5, 5, 6, 6, 7, 7, 8, 8, 9, 9, 10, 10, 11, 11, 12, 12, 13, 13}
)

var levels = []int{deflate.Stored, deflate.Fixed, deflate.Best}

func noise(seed int64, size int) []byte {
	b := make([]byte, size)
	rand.New(rand.NewSource(seed)).Read(b)
	return b
}

// high answers bytes above 143 by chance: those that are longest in a fixed block.
func high(seed int64, size int) []byte {
	b := noise(seed, size)
	for i := range b {
		b[i] = 144 + b[i]%112
	}
	return b
}

// words answers a text as a part of a workbook might be.
func words(seed int64, size int) []byte {
	chance := rand.New(rand.NewSource(seed))
	var b bytes.Buffer
	for b.Len() < size {
		fmt.Fprintf(&b, "<c r=\"%c%d\"><v>%d</v></c>", 'A'+chance.Intn(26), 1+chance.Intn(512), chance.Intn(1000))
	}
	return b.Bytes()[:size]
}

// few answers bytes by chance of so many kinds.
func few(seed int64, size, kinds int) []byte {
	b := noise(seed, size)
	for i := range b {
		b[i] = byte(int(b[i]) % kinds)
	}
	return b
}

func again(text string, size int) []byte {
	return []byte(strings.Repeat(text, size/len(text)+1)[:size])
}

// someTexts answers texts of many kinds and sizes.
func someTexts() [][]byte {
	all := make([]byte, 256)
	for i := range all {
		all[i] = byte(i)
	}
	skew := make([]byte, 90000)
	chance := rand.New(rand.NewSource(401))
	for i := range skew {
		skew[i] = byte(chance.ExpFloat64() * 6)
	}
	l := [][]byte{nil, {}, []byte("a"), []byte("aa"), []byte("aaa"), []byte("aaaa"), []byte("ab"), []byte("abcabc"), []byte("Hello, hello!"),
		all, slices.Concat(all, all), skew, noise(402, 70000), high(403, 70000), words(404, 140000), few(405, 70000, 2), few(406, 3000, 3),
		make([]byte, 200000), bytes.Repeat(noise(407, 40000), 3), bytes.Repeat(noise(408, 32768), 2), bytes.Repeat(noise(409, 32769), 2),
		slices.Concat(noise(410, 65535), words(411, 65535), make([]byte, 65535), words(412, 10)),
		slices.Concat(words(413, 65500), bytes.Repeat([]byte("over the edge of a block, "), 30)),
	}
	for size := 3; size <= 300; size += 7 {
		l = append(l, words(int64(size), size), few(int64(size), size, 2))
	}
	return l
}

func bound(size int) int { return size + 5*((size+65534)/65535) + 6 }

func narrow(size int) int { return 80 + size/15 }

// deflated answers a stream, and asks what all streams must be: read back whole, within the bound; the text unchanged.
func deflated(t *testing.T, text []byte, level int) []byte {
	t.Helper()
	given := bytes.Clone(text)
	b, e := deflate.Deflate(text, level)
	if e != api.OK {
		t.Fatalf("Deflate(%.40q.., %d): %d", text, level, e)
	}
	if !bytes.Equal(text, given) {
		t.Fatalf("Deflate(%.40q.., %d) changed it", given, level)
	}
	if len(b) > bound(len(text)) {
		t.Fatalf("Deflate(%.40q.. (%d), %d): %d bytes, more than %d", text, len(text), level, len(b), bound(len(text)))
	}
	back, took, e := inflate.Inflate(b, len(text))
	if !bytes.Equal(back, text) || took != len(b) || e != api.OK {
		t.Fatalf("Deflate(%.40q.. (%d), %d): %d bytes; back %d bytes out of %d, %d", text, len(text), level, len(b), len(back), took, e)
	}
	return b
}

// walker reads a stream without asking much: for the kinds of its blocks.
type walker struct {
	t *testing.T
	*bits.Reader
}

func (w walker) num(n int) int {
	v, e := w.Take(n)
	if e != api.OK {
		w.t.Fatalf("%d bits: %d", n, e)
	}
	return int(v)
}

func (w walker) symbol(d *huff.Decoder) int {
	v, e := d.Next(w.Reader)
	if e != api.OK {
		w.t.Fatalf("a symbol: %d", e)
	}
	return v
}

func (w walker) decoder(lengths []int) *huff.Decoder {
	d, e := huff.New(lengths)
	if e != api.OK {
		w.t.Fatalf("lengths %v: %d", lengths, e)
	}
	return d
}

func (w walker) pass(lits, dists *huff.Decoder) {
	for s := w.symbol(lits); s != 256; s = w.symbol(lits) {
		if s > 256 {
			w.num(lengthExtra[s-257])
			w.num(distExtra[w.symbol(dists)])
		}
	}
}

// dynamic passes over a dynamic block's codes, and answers them.
func (w walker) dynamic() (*huff.Decoder, *huff.Decoder) {
	lits, dists, many := 257+w.num(5), 1+w.num(5), 4+w.num(4)
	lengths := make([]int, 19)
	for _, i := range []int{16, 17, 18, 0, 8, 7, 9, 6, 10, 5, 11, 4, 12, 3, 13, 2, 14, 1, 15}[:many] {
		lengths[i] = w.num(3)
	}
	d := w.decoder(lengths)
	var row []int
	for len(row) < lits+dists {
		switch s := w.symbol(d); s {
		case 16:
			row = append(row, slices.Repeat(row[len(row)-1:], 3+w.num(2))...)
		case 17:
			row = append(row, make([]int, 3+w.num(3))...)
		case 18:
			row = append(row, make([]int, 11+w.num(7))...)
		default:
			row = append(row, s)
		}
	}
	return w.decoder(row[:lits]), w.decoder(row[lits:])
}

// kinds answers the kinds of a stream's blocks.
func kinds(t *testing.T, b []byte) []int {
	t.Helper()
	w := walker{t, bits.NewReader(b)}
	var l []int
	for last := 0; last == 0; {
		last = w.num(1)
		kind := w.num(2)
		l = append(l, kind)
		switch kind {
		case 0:
			w.Align()
			many := w.num(16)
			w.num(16)
			w.Bytes(many)
		case 1:
			w.pass(w.decoder(inflate.FixedLit()), w.decoder(inflate.FixedDist()))
		case 2:
			w.pass(w.dynamic())
		}
	}
	if w.Left() >= 8 {
		t.Fatalf("%d bits are left", w.Left())
	}
	return l
}

// P401: the chapter's examples.
func TestExamples(t *testing.T) {
	if b := deflated(t, []byte("a"), deflate.Stored); string(b) != "\x01\x01\x00\xfe\xffa" {
		t.Errorf("Stored: %x", b)
	}
	if b := deflated(t, make([]byte, 1000), deflate.Best); len(b) > 146 {
		t.Errorf("Best: %d bytes", len(b))
	}
}

// P401: levels that are none, and too many bytes: the level's error comes first.
func TestErrors(t *testing.T) {
	want := func(size, level int, e api.Errno) {
		t.Helper()
		if b, got := deflate.Deflate(make([]byte, size), level); len(b) > 0 || got != e {
			t.Errorf("Deflate(%d bytes, %d): %d bytes, %d, not %d", size, level, len(b), got, e)
		}
	}
	for _, level := range []int{-1, 3, 4, -2, math.MinInt, math.MaxInt} {
		for _, size := range []int{0, 1, 1000, api.MaxFile, api.MaxFile + 1, 2 * api.MaxFile} {
			want(size, level, api.ErrArg)
		}
	}
	for _, level := range levels {
		want(api.MaxFile+1, level, api.ErrBig)
		want(3*api.MaxFile, level, api.ErrBig)
	}
}

// P401, P404: just as many bytes as may be.
func TestMaxFile(t *testing.T) {
	for _, text := range [][]byte{noise(420, api.MaxFile), make([]byte, api.MaxFile), words(421, api.MaxFile), few(422, api.MaxFile, 2)} {
		for _, level := range levels {
			deflated(t, text, level)
		}
	}
}

// P401, P404: no bytes are a stream, too.
func TestNoBytes(t *testing.T) {
	for _, level := range levels {
		for _, text := range [][]byte{nil, {}} {
			if b := deflated(t, text, level); len(b) == 0 || len(b) > 6 {
				t.Errorf("Deflate of nothing, %d: %x", level, b)
			}
		}
	}
	if items := deflate.Parse(nil); len(items) > 0 {
		t.Errorf("Parse of nothing: %v", items)
	}
	if b, ok := deflate.Unparse(nil); len(b) > 0 || !ok {
		t.Errorf("Unparse of nothing: %q, %v", b, ok)
	}
}

// P401: of Stored all blocks are stored; at the sizes where one more is begun, too.
func TestStoredOnly(t *testing.T) {
	for _, size := range []int{0, 1, 100, 65534, 65535, 65536, 65537, 131069, 131070, 131071, 196605, 196606, 16 * 65535, 16*65535 + 1} {
		for _, text := range [][]byte{make([]byte, size), noise(430, size)} {
			b := deflated(t, text, deflate.Stored)
			if l := kinds(t, b); slices.Max(l) != 0 {
				t.Errorf("Stored, %d bytes: blocks of the kinds %v", size, l)
			}
		}
	}
	for _, text := range someTexts() {
		if l := kinds(t, deflated(t, text, deflate.Stored)); slices.Max(l) != 0 {
			t.Errorf("Stored, %.40q..: blocks of the kinds %v", text, l)
		}
	}
}

// P401: of Fixed no block is dynamic.
func TestFixedNotDynamic(t *testing.T) {
	for _, text := range someTexts() {
		if l := kinds(t, deflated(t, text, deflate.Fixed)); slices.Max(l) > 1 {
			t.Errorf("Fixed, %.40q..: blocks of the kinds %v", text, l)
		}
	}
}

// P401: the bound of bytes, where no copy helps and every code is long, at all small sizes and where blocks begin.
func TestBound(t *testing.T) {
	var sizes []int
	for size := range 700 {
		sizes = append(sizes, size)
	}
	for _, blocks := range []int{1, 2, 3} {
		for more := -2; more <= 2; more++ {
			sizes = append(sizes, blocks*65535+more)
		}
	}
	flat, tall := noise(440, 200000), high(441, 200000)
	for _, size := range sizes {
		for _, level := range levels {
			deflated(t, flat[:size], level)
			deflated(t, tall[:size], level)
		}
	}
}

// P401: stored blocks behind blocks that end within a byte, and the other way round.
func TestMixedBlocks(t *testing.T) {
	for shift := range 9 {
		text := slices.Concat(words(450, 65535-shift), noise(451, 65535), words(452, 65535), noise(453, 30000))
		for _, level := range levels {
			deflated(t, text, level)
		}
	}
}

// P401: of Best one byte again and again stays within a narrow bound.
func TestOneByteAgain(t *testing.T) {
	for b := range 256 {
		for _, size := range []int{1, 2, 3, 4, 5, 100, 258, 259, 260, 600, 1000} {
			text := bytes.Repeat([]byte{byte(b)}, size)
			if got := len(deflated(t, text, deflate.Best)); got > narrow(size) {
				t.Errorf("the byte %d %d times: %d bytes, more than %d", b, size, got, narrow(size))
			}
		}
	}
	for _, size := range []int{65534, 65535, 65536, 65537, 131070, 300000, api.MaxFile} {
		for _, b := range []byte{0, 'a', 255} {
			if got := len(deflated(t, bytes.Repeat([]byte{b}, size), deflate.Best)); got > narrow(size) {
				t.Errorf("the byte %d %d times: %d bytes, more than %d", b, size, got, narrow(size))
			}
		}
	}
}

// P401: of Best a text of 1 to 64 bytes again and again stays within the narrow bound, whatever its bytes are.
func TestTextAgain(t *testing.T) {
	for size := 1; size <= 64; size++ {
		same := strings.Repeat("\xee", size-1)
		texts := []string{string(noise(int64(size), size)), string(high(int64(size), size)), string(few(int64(size), size, 2)), same + "\xff", "\xff" + same, same[:size/2] + "\xff" + same[size/2:]}
		for _, text := range texts {
			for _, whole := range []int{size, size + 1, 2*size - 1, 2 * size, 2*size + 1, 3 * size, 10 * size, 100*size + 1, 6000, 70000} {
				if whole < 1 {
					continue
				}
				if got := len(deflated(t, again(text, whole), deflate.Best)); got > narrow(whole) {
					t.Errorf("%q again and again, %d bytes: %d bytes, more than %d", text, whole, got, narrow(whole))
				}
			}
		}
	}
	for _, size := range []int{1, 2, 3, 13, 63, 64} {
		if got := len(deflated(t, again(string(high(460, size)), api.MaxFile), deflate.Best)); got > narrow(api.MaxFile) {
			t.Errorf("%d bytes again and again: %d bytes, more than %d", size, got, narrow(api.MaxFile))
		}
	}
}

// P404: Inflate of Deflate is the text, and takes all bytes, and no more where others stand behind; another reader reads the same.
func TestBack(t *testing.T) {
	for _, text := range someTexts() {
		for _, level := range levels {
			b := deflated(t, text, level)
			back, took, e := inflate.Inflate(slices.Concat(b, b, []byte("behind")), math.MaxInt)
			if !bytes.Equal(back, text) || took != len(b) || e != api.OK {
				t.Errorf("%.40q.., %d: %d bytes out of %d of %d, %d", text, level, len(back), took, len(b), e)
			}
			in := bytes.NewReader(b)
			other, err := io.ReadAll(flate.NewReader(in))
			if !bytes.Equal(other, text) || in.Len() != 0 || err != nil {
				t.Errorf("%.40q.., %d: another reader: %d bytes, %d left, %v", text, level, len(other), in.Len(), err)
			}
		}
	}
}

// right tells whether an item may stand behind so many bytes, by the chapter's words.
func right(item deflate.Item, behind int) bool {
	if item.Len == 0 && item.Dist == 0 {
		return item.Byte >= 0 && item.Byte <= 255
	}
	return item.Byte == 0 && item.Len >= 3 && item.Len <= 258 && item.Dist >= 1 && item.Dist <= 32768 && item.Dist <= behind
}

// parsed answers items, and asks what all must be: right ones, no more than bytes, that tell the text, with copies for runs.
func parsed(t *testing.T, text []byte) []deflate.Item {
	t.Helper()
	given := bytes.Clone(text)
	items := deflate.Parse(text)
	if !bytes.Equal(text, given) {
		t.Fatalf("Parse(%.40q..) changed it", given)
	}
	if len(items) > len(text) {
		t.Fatalf("Parse(%.40q..): %d items of %d bytes", text, len(items), len(text))
	}
	at := 0
	for i, item := range items {
		if !right(item, at) {
			t.Fatalf("Parse(%.40q..): item %d at %d: %v", text, i, at, item)
		}
		if at > 0 && at+4 <= len(text) && bytes.Count(text[at-1:at+4], text[at:at+1]) == 5 && item.Len == 0 {
			t.Fatalf("Parse(%.40q..): no copy at %d, where the byte ahead stands 4 times more", text, at)
		}
		at += max(1, item.Len)
	}
	if len(text) <= api.MaxFile {
		if back, ok := deflate.Unparse(items); !bytes.Equal(back, text) || !ok {
			t.Fatalf("Unparse of Parse(%.40q..): %d bytes, not %d, %v", text, len(back), len(text), ok)
		}
	}
	return items
}

// P402, P404: Parse and Unparse of texts of many kinds.
func TestParse(t *testing.T) {
	for _, text := range someTexts() {
		parsed(t, text)
	}
	for size := range 40 {
		parsed(t, few(int64(size), size*37, 2))
		parsed(t, few(int64(size), size*37, 4))
	}
}

// P402: wherever the same byte stands at least 4 times more, a copy stands: at the beginning, at the end, between others, and behind what is told by a longer copy.
func TestParseRuns(t *testing.T) {
	for times := 5; times <= 600; times += 1 + times/20 {
		run := strings.Repeat("x", times)
		for _, text := range []string{run, run + "y", "y" + run, "ab" + run + "cd", "xy" + run + "yx", run + "y" + run, "bxxxc" + run + "bxxxx" + run, run + strings.Repeat("z", times)} {
			items := parsed(t, []byte(text))
			if !slices.ContainsFunc(items, func(item deflate.Item) bool { return item.Len > 0 }) {
				t.Errorf("Parse(%.40q..): no copy: %v", text, items)
			}
			wantCovered(t, text, items)
		}
	}
	parsed(t, slices.Concat(noise(470, 40000), make([]byte, 9), noise(471, 40000), make([]byte, 6), noise(472, 100)))
}

// wantCovered asks that each run of a byte and 4 more is told by a copy, as a whole or in part.
func wantCovered(t *testing.T, text string, items []deflate.Item) {
	t.Helper()
	var copied []bool
	for _, item := range items {
		copied = append(copied, slices.Repeat([]bool{item.Len > 0}, max(1, item.Len))...)
	}
	for from, to := 0, 0; from < len(text); from = to {
		for to = from; to < len(text) && text[to] == text[from]; {
			to++
		}
		if to-from >= 5 && !slices.Contains(copied[from:to], true) {
			t.Fatalf("Parse(%.40q..): no copy from %d to %d", text, from, to)
		}
	}
}

// P402: a text of more than api.MaxFile bytes is told by items, but Unparse does not tell it back.
func TestParseBig(t *testing.T) {
	text := words(480, api.MaxFile+1)
	items := parsed(t, text)
	if b, ok := deflate.Unparse(items); len(b) > 0 || ok {
		t.Errorf("Unparse: %d bytes, %v", len(b), ok)
	}
	size := 0
	for _, item := range items {
		size += max(1, item.Len)
	}
	if size != len(text) {
		t.Errorf("items of %d bytes, not %d", size, len(text))
	}
}

// unparse asks for a text, or for nothing and false.
func unparse(t *testing.T, l []deflate.Item, text string, ok bool) {
	t.Helper()
	given := slices.Clone(l)
	b, got := deflate.Unparse(l)
	if string(b) != text || got != ok {
		t.Errorf("Unparse(.. %v): %.40q.. (%d), %v, not %.40q.. (%d), %v", l[max(0, len(l)-3):], b, len(b), got, text, len(text), ok)
	}
	if !slices.Equal(l, given) {
		t.Errorf("Unparse changed its items")
	}
}

// one answers an item for each byte.
func one(text string) []deflate.Item {
	l := make([]deflate.Item, len(text))
	for i := range l {
		l[i].Byte = int(text[i])
	}
	return l
}

func with(l []deflate.Item, more ...deflate.Item) []deflate.Item { return slices.Concat(l, more) }

// P402: items that are none are none alone, and among right ones.
func TestUnparseWrong(t *testing.T) {
	wrong := []deflate.Item{{Byte: -1}, {Byte: 256}, {Byte: math.MinInt}, {Byte: math.MaxInt},
		{Len: 2, Dist: 1}, {Len: 1, Dist: 1}, {Len: -1, Dist: 1}, {Len: -3, Dist: 1}, {Len: 259, Dist: 1}, {Len: math.MaxInt, Dist: 1}, {Len: math.MinInt, Dist: 1},
		{Len: 3, Dist: 0}, {Len: 258, Dist: 0}, {Len: 3, Dist: -1}, {Len: 3, Dist: math.MinInt}, {Len: 3, Dist: math.MaxInt}, {Len: 3, Dist: 6},
		{Dist: 1}, {Dist: 3}, {Dist: -1}, {Byte: 'a', Dist: 1}, {Byte: 'a', Len: 3}, {Byte: 'a', Len: 3, Dist: 1}, {Byte: 1, Len: 3, Dist: 1}, {Byte: -1, Len: 3, Dist: 1}, {Byte: 256, Len: 3, Dist: 1}, {Byte: 'a', Len: -1}, {Len: 2}}
	for _, item := range wrong {
		unparse(t, []deflate.Item{item}, "", false)
		unparse(t, with(one("hello"), item), "", false)
		unparse(t, with(one("hello"), item, deflate.Item{Byte: 'x'}), "", false)
	}
	for _, item := range []deflate.Item{{Len: 3, Dist: 1}, {Len: 258, Dist: 32768}, {Len: 3, Dist: 3}} {
		unparse(t, []deflate.Item{item}, "", false)
	}
}

// P402: the least and the most of each number; a copy that goes over itself.
func TestUnparse(t *testing.T) {
	all := string(slices.Collect(func(yield func(byte) bool) {
		for b := 0; b < 256 && yield(byte(b)); b++ {
		}
	}))
	unparse(t, one(all), all, true)
	unparse(t, with(one("abc"), deflate.Item{Len: 3, Dist: 3}), "abcabc", true)
	unparse(t, with(one("abc"), deflate.Item{Len: 8, Dist: 3}, deflate.Item{Byte: '!'}), "abcabcabcab!", true)
	unparse(t, with(one("ab"), deflate.Item{Len: 258, Dist: 1}), "a"+strings.Repeat("b", 259), true)
	unparse(t, with(one("ab"), deflate.Item{Len: 257, Dist: 2}), strings.Repeat("ab", 130)[:259], true)
	for length := 3; length <= 258; length++ {
		unparse(t, with(one("hello"), deflate.Item{Len: length, Dist: 4}), "h"+strings.Repeat("ello", 66)[:4+length], true)
	}
}

// P402: a distance just at the beginning, one beyond it, and the farthest.
func TestUnparseDistances(t *testing.T) {
	text := string(noise(490, 32770))
	for _, at := range []int{1, 2, 3, 5, 100, 32766, 32767, 32768, 32769, 32770} {
		for _, dist := range []int{at - 1, at, at + 1, 32767, 32768, 32769} {
			l := with(one(text[:at]), deflate.Item{Len: 3, Dist: dist})
			if dist < 1 || dist > at || dist > 32768 {
				unparse(t, l, "", false)
				continue
			}
			from := text[at-dist : at]
			unparse(t, l, text[:at]+(from + from + from)[:3], true)
		}
	}
}

// P402: items that tell just api.MaxFile bytes, and those that would tell more, by a byte or by a copy; a wrong one far behind is wrong, too.
func TestUnparseBig(t *testing.T) {
	l := one("z")
	for size := 1; size+258 <= api.MaxFile-300; size += 258 {
		l = append(l, deflate.Item{Len: 258, Dist: 1})
	}
	size := 1 + 258*(len(l)-1)
	for size < api.MaxFile-3 {
		l = append(l, deflate.Item{Byte: 'z'})
		size++
	}
	whole := strings.Repeat("z", api.MaxFile)
	copied := with(l, deflate.Item{Len: 3, Dist: 1})
	unparse(t, copied, whole, true)
	unparse(t, with(l, one("zzz")...), whole, true)
	unparse(t, with(l, one("zzzz")...), "", false)
	unparse(t, with(copied, deflate.Item{Byte: 'z'}), "", false)
	unparse(t, with(copied, deflate.Item{Len: 258, Dist: 32768}), "", false)
	unparse(t, with(copied, deflate.Item{Byte: 256}), "", false)
	for _, length := range []int{4, 5, 258} {
		unparse(t, with(l, deflate.Item{Len: length, Dist: 9}), "", false)
	}
}

// rowOf reads symbols of the code lengths by the rules of chapter 3. Each number must fit its extra bits.
func rowOf(t *testing.T, symbols, more []int) []int {
	t.Helper()
	if len(symbols) != len(more) {
		t.Fatalf("%d symbols, %d numbers", len(symbols), len(more))
	}
	var row []int
	for i, s := range symbols {
		most := 0
		if s >= 16 && s <= 18 {
			most = []int{3, 7, 127}[s-16]
		}
		if s < 0 || s > 18 || more[i] < 0 || more[i] > most || s == 16 && len(row) == 0 {
			t.Fatalf("symbol %d, number %d, behind %d lengths", s, more[i], len(row))
		}
		switch s {
		case 16:
			row = append(row, slices.Repeat(row[len(row)-1:], 3+more[i])...)
		case 17:
			row = append(row, make([]int, 3+more[i])...)
		case 18:
			row = append(row, make([]int, 11+more[i])...)
		default:
			row = append(row, s)
		}
	}
	return row
}

// wantRow asks that a row is told; what is no length counts as 0.
func wantRow(t *testing.T, l []int) {
	t.Helper()
	given, want := slices.Clone(l), slices.Clone(l)
	for i, n := range want {
		if n < 0 || n > 15 {
			want[i] = 0
		}
	}
	symbols, more := deflate.Lengths(l)
	if row := rowOf(t, symbols, more); !slices.Equal(row, want) {
		t.Fatalf("Lengths(%v): %v, %v, which is %v", l, symbols, more, row)
	}
	if !slices.Equal(l, given) {
		t.Fatalf("Lengths(%v) changed it", given)
	}
}

func repeat(v, n int) []int { return slices.Repeat([]int{v}, n) }

// P403: runs of each number, at the row's beginning, between others, and at its end.
func TestLengthsRuns(t *testing.T) {
	for times := 1; times <= 300; times++ {
		for _, v := range []int{0, 1, 7, 15} {
			run := repeat(v, times)
			wantRow(t, run)
			wantRow(t, slices.Concat(run, []int{3}))
			wantRow(t, slices.Concat([]int{3}, run))
			wantRow(t, slices.Concat([]int{0, 3}, run, []int{3, 0}))
			wantRow(t, slices.Concat(run, repeat(15-v, times), run))
		}
	}
}

// P403: each length there is, none, and rows by chance.
func TestLengths(t *testing.T) {
	wantRow(t, nil)
	wantRow(t, []int{})
	for v := range 16 {
		wantRow(t, []int{v})
		for w := range 16 {
			wantRow(t, []int{v, w})
			wantRow(t, []int{v, v, w, w, w, v, v, v, v})
		}
	}
	wantRow(t, inflate.FixedLit())
	wantRow(t, slices.Concat(inflate.FixedLit(), inflate.FixedDist()))
	chance := rand.New(rand.NewSource(403))
	for range 2000 {
		var row []int
		for range chance.Intn(20) {
			row = append(row, repeat(chance.Intn(20)-2, 1+chance.Intn(30))...)
		}
		wantRow(t, row)
	}
}

// P403: values below 0 and above 15 count as 0, in runs and alone.
func TestLengthsOutside(t *testing.T) {
	for _, v := range []int{-1, 16, 17, 18, 19, math.MinInt, math.MaxInt, -15, 1 << 32, 1<<32 + 5} {
		wantRow(t, []int{v})
		wantRow(t, []int{5, v, 5})
		wantRow(t, []int{5, v, 0, v, 0, v, 5})
		for _, times := range []int{2, 3, 4, 10, 11, 138, 139, 300} {
			wantRow(t, repeat(v, times))
			wantRow(t, slices.Concat([]int{5}, repeat(v, times), []int{0, -1, 16, 5}))
		}
	}
}

// Rule 4: what is handed out is new memory, spare room too; what is handed in is not changed, its spare room neither.
func TestSharesNothing(t *testing.T) {
	room := []byte("Hello, hello! Hello, hello!behind")
	text, kept := room[:27], string(room)
	for _, level := range levels {
		first, _ := deflate.Deflate(text, level)
		want := string(first)
		for i := range first[:cap(first)] {
			first[:cap(first)][i] = 0xdd
		}
		if next, _ := deflate.Deflate(text, level); string(next) != want || string(room) != kept {
			t.Errorf("Deflate, %d: %x, not %x; %q", level, next, want, room)
		}
	}
	items := deflate.Parse(text)
	want := slices.Clone(items)
	clear(items[:cap(items)])
	if next := deflate.Parse(text); !slices.Equal(next, want) || string(room) != kept {
		t.Errorf("Parse: %v, not %v; %q", next, want, room)
	}
	b, _ := deflate.Unparse(want)
	clear(b[:cap(b)])
	if next, ok := deflate.Unparse(want); string(next) != string(text) || !ok {
		t.Errorf("Unparse: %q, %v", next, ok)
	}
	spare := append(repeat(4, 40), 9, 9, 9)
	symbols, more := deflate.Lengths(spare[:40])
	wantMore := slices.Clone(more)
	clear(symbols[:cap(symbols)])
	if !slices.Equal(more, wantMore) || !slices.Equal(spare, append(repeat(4, 40), 9, 9, 9)) {
		t.Errorf("Lengths: %v, not %v; %v", more, wantMore, spare)
	}
}

// Rule 5: the same calls have the same answers, whatever came between.
func TestSameAgain(t *testing.T) {
	for _, text := range someTexts() {
		for _, level := range levels {
			first, _ := deflate.Deflate(text, level)
			deflate.Deflate(words(499, 1000), level)
			if next, _ := deflate.Deflate(bytes.Clone(text), level); !bytes.Equal(first, next) {
				t.Errorf("Deflate(%.40q.., %d): two answers", text, level)
			}
		}
		if !slices.Equal(deflate.Parse(text), deflate.Parse(bytes.Clone(text))) {
			t.Errorf("Parse(%.40q..): two answers", text)
		}
	}
}

// P401: a copy of each length, and of the distances at the edges of their symbols, is written as it is read.
func TestCopiesAllKinds(t *testing.T) {
	for _, base := range lengthBase {
		for _, length := range []int{base - 1, base, base + 1} {
			head := noise(int64(length), 300)
			text := slices.Concat(head, []byte("|"), head[:length], []byte("|"))
			for _, level := range levels {
				deflated(t, text, level)
			}
		}
	}
	sea := noise(498, 33000)
	for i, extra := range distExtra {
		for _, dist := range []int{1<<extra + 1, 1<<(i/2+1) + 1, 1 << (i/2 + 1), 3<<(i/2) + 1, 3 << (i / 2), 32768} {
			dist = min(dist, 32768)
			text := slices.Concat(sea[:dist], sea[:20], []byte("|"))
			for _, level := range levels {
				deflated(t, text, level)
			}
		}
	}
}
