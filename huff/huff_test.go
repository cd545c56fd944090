package huff_test

import (
	"math"
	"math/rand"
	"slices"
	"strings"
	"testing"

	"quire/api"
	"quire/bits"
	"quire/huff"
)

// repeat answers n lengths, or freqs, that are all v.
func repeat(v, n int) []int { return slices.Repeat([]int{v}, n) }

// with answers a copy of l with v in place i.
func with(l []int, i, v int) []int {
	l = slices.Clone(l)
	l[i] = v
	return l
}

// chain answers the lengths 1, 2, .., n, n: full.
func chain(n int) []int {
	l := []int{}
	for i := range n {
		l = append(l, i+1)
	}
	return append(l, n)
}

func wantCodes(t *testing.T, lengths []int, codes ...uint32) {
	t.Helper()
	got, e := huff.Codes(lengths)
	if e != api.OK || !slices.Equal(got, codes) {
		t.Errorf("Codes(%v): %v, %d, not %v, 0", lengths, got, e, codes)
	}
}

// wantWrong asks Codes and New for the same error, and Full for false.
func wantWrong(t *testing.T, lengths []int, want api.Errno) {
	t.Helper()
	if codes, e := huff.Codes(lengths); e != want || len(codes) > 0 {
		t.Errorf("Codes(%v): %v, %d, not nothing, %d", lengths, codes, e, want)
	}
	if d, e := huff.New(lengths); e != want || d != nil {
		t.Errorf("New(%v): %v, %d, not nil, %d", lengths, d, e, want)
	}
	if huff.Full(lengths) {
		t.Errorf("Full(%v)", lengths)
	}
}

// wantFull asks Full of lengths that are right.
func wantFull(t *testing.T, lengths []int, full bool) {
	t.Helper()
	if _, e := huff.Codes(lengths); e != api.OK {
		t.Errorf("Codes(%v): %d", lengths, e)
	}
	if got := huff.Full(lengths); got != full {
		t.Errorf("Full(%v): %v", lengths, got)
	}
}

func decoder(t *testing.T, lengths ...int) *huff.Decoder {
	t.Helper()
	d, e := huff.New(lengths)
	if e != api.OK || d == nil {
		t.Fatalf("New(%v): %v, %d", lengths, d, e)
	}
	return d
}

// wantNext asks one Next, and how many bits are left behind it.
func wantNext(t *testing.T, d *huff.Decoder, r *bits.Reader, symbol int, e api.Errno, left int) {
	t.Helper()
	got, gotE := d.Next(r)
	if got != symbol || gotE != e {
		t.Errorf("Next: %d, %d, not %d, %d", got, gotE, symbol, e)
	}
	if r.Left() != left {
		t.Errorf("Left behind Next: %d, not %d", r.Left(), left)
	}
}

// putCode writes a code, the first bit first.
func putCode(w *bits.Writer, code uint32, n int) { w.Put(bits.Reverse(code, n), n) }

// readerOf makes a reader that has just these bits, the first one first.
func readerOf(t *testing.T, text string) *bits.Reader {
	t.Helper()
	w := bits.NewWriter()
	over := (8 - len(text)%8) % 8
	w.Put(0, over)
	for _, c := range text {
		w.Put(uint32(c-'0'), 1)
	}
	r := bits.NewReader(w.Done())
	if _, e := r.Take(over); e != api.OK || r.Left() != len(text) {
		t.Fatal("no such reader")
	}
	return r
}

// spent answers a reader whose bits were all taken.
func spent(t *testing.T) *bits.Reader {
	t.Helper()
	r := bits.NewReader([]byte{5})
	if _, e := r.Take(8); e != api.OK || r.Left() != 0 {
		t.Fatal("no such reader")
	}
	return r
}

// P201: shorter ones first, of one length by symbols; symbols without have 0.
func TestCodes(t *testing.T) {
	wantCodes(t, []int{2, 1, 3, 3}, 0b10, 0b0, 0b110, 0b111)
	wantCodes(t, []int{3, 3, 3, 3, 3, 2, 4, 4}, 0b010, 0b011, 0b100, 0b101, 0b110, 0b00, 0b1110, 0b1111)
	wantCodes(t, []int{1, 1}, 0, 1)
	wantCodes(t, []int{0, 2, 0, 2, 1, 0}, 0, 0b10, 0, 0b11, 0, 0)
	wantCodes(t, []int{2, 2, 2, 2}, 0, 1, 2, 3)
	wantCodes(t, []int{4, 4, 3, 2, 1}, 0b1110, 0b1111, 0b110, 0b10, 0)
}

// P201: DEFLATE's fixed lengths, whose codes RFC 1951 tells.
func TestCodesFixed(t *testing.T) {
	l := slices.Concat(repeat(8, 144), repeat(9, 112), repeat(7, 24), repeat(8, 8))
	codes, e := huff.Codes(l)
	if e != api.OK || len(codes) != 288 || !huff.Full(l) {
		t.Fatalf("Codes: %d codes, %d", len(codes), e)
	}
	for symbol, code := range codes {
		want := uint32(0b00110000 + symbol)
		switch {
		case symbol > 279:
			want = uint32(0b11000000 + symbol - 280)
		case symbol > 255:
			want = uint32(symbol - 256)
		case symbol > 143:
			want = uint32(0b110010000 + symbol - 144)
		}
		if code != want {
			t.Errorf("code of %d: %b, not %b", symbol, code, want)
		}
	}
}

// P201: none, and one symbol alone, are right, and not full.
func TestFewCodes(t *testing.T) {
	wantCodes(t, nil)
	wantCodes(t, []int{})
	wantCodes(t, []int{0, 0, 0}, 0, 0, 0)
	wantCodes(t, []int{1}, 0)
	wantCodes(t, []int{0, 0, 1, 0}, 0, 0, 0, 0)
	for _, l := range [][]int{nil, {}, {0}, {0, 0, 0}, {1}, {0, 1}, {1, 0}, repeat(0, huff.MaxSyms), with(repeat(0, huff.MaxSyms), huff.MaxSyms-1, 1)} {
		wantFull(t, l, false)
	}
	for n := 2; n <= huff.MaxBits; n++ {
		wantWrong(t, []int{n}, api.ErrCode)
		wantWrong(t, []int{0, n, 0}, api.ErrCode)
	}
}

// P201: the longest codes, and as many as may be.
func TestCodesEdges(t *testing.T) {
	codes, e := huff.Codes(chain(huff.MaxBits))
	if e != api.OK || codes[14] != 0x7ffe || codes[15] != 0x7fff || codes[13] != 0x3ffe {
		t.Errorf("Codes of a chain: %v, %d", codes, e)
	}
	wantFull(t, chain(huff.MaxBits), true)
	most := slices.Concat(repeat(8, 192), repeat(9, 128))
	wantFull(t, most, true)
	codes, e = huff.Codes(most)
	if e != api.OK || len(codes) != huff.MaxSyms || codes[191] != 191 || codes[192] != 384 || codes[319] != 511 {
		t.Errorf("Codes of MaxSyms: %v, %d", codes, e)
	}
}

// P201: too many symbols, or a length that can't be, ahead of ErrCode.
func TestCodesWrongArguments(t *testing.T) {
	for _, l := range [][]int{
		repeat(0, huff.MaxSyms+1),
		repeat(1, huff.MaxSyms+1),
		append(slices.Concat(repeat(8, 192), repeat(9, 128)), 0),
		{-1}, {16}, {1, 1, -1}, {1, 1, 16}, {1, 1, 1, 16}, {2, -1}, {16, 1, 1, 1},
		{math.MinInt}, {math.MaxInt}, {1, math.MinInt}, {1, 1, math.MaxInt}, {1, 1 + 1<<32},
	} {
		wantWrong(t, l, api.ErrArg)
	}
}

// P201: too many codes, or too few, to be full.
func TestCodesNotRight(t *testing.T) {
	for _, l := range [][]int{
		{1, 1, 1}, {2, 2}, {1, 2}, {2, 1}, {2, 2, 2}, {2, 2, 2, 2, 2}, {1, 1, 15}, {15, 15}, {2, 1, 3}, {2, 1, 3, 3, 15},
		repeat(1, huff.MaxSyms), repeat(15, huff.MaxSyms), repeat(8, 255), repeat(8, 257), {0, 2, 0, 1},
		chain(huff.MaxBits)[:huff.MaxBits], append(chain(huff.MaxBits), 15),
	} {
		wantWrong(t, l, api.ErrCode)
	}
	wantFull(t, repeat(8, 256), true)
}

// P201: what all lists of up to five lengths answer, by the words.
func TestRightByTheWords(t *testing.T) {
	var l [5]int
	for many := range 6 {
		for number := range int(math.Pow(5, float64(many))) {
			for i := range many {
				l[i], number = number%5, number/5
			}
			askByTheWords(t, slices.Clone(l[:many]))
		}
	}
}

func askByTheWords(t *testing.T, lengths []int) {
	t.Helper()
	room, used := 0, 0
	for _, n := range lengths {
		if n > 0 {
			room += 1 << (15 - n)
			used++
		}
	}
	full := room == 1<<15
	if full || used == 0 || used == 1 && slices.Max(lengths) == 1 {
		wantFull(t, lengths, full)
	} else {
		wantWrong(t, lengths, api.ErrCode)
	}
}

// P202: the first bit of a code is read first; only its bits are taken.
func TestNext(t *testing.T) {
	d := decoder(t, 2, 1, 3, 3)
	r := readerOf(t, "10"+"0"+"110"+"111"+"0"+"0"+"10")
	left := 13
	for _, symbol := range []int{0, 1, 2, 3, 1, 1, 0} {
		left -= []int{2, 1, 3, 3}[symbol]
		wantNext(t, d, r, symbol, api.OK, left)
	}
	wantNext(t, d, r, 0, api.ErrEnd, 0)
	r = bits.NewReader([]byte{0x1d})
	wantNext(t, d, r, 0, api.OK, 6)
	wantNext(t, d, r, 3, api.OK, 3)
}

// P202: symbols without a code are never answered.
func TestNextPassesOverSymbolsWithout(t *testing.T) {
	d := decoder(t, 0, 2, 0, 2, 0, 0, 1, 0)
	r := readerOf(t, "11"+"0"+"10")
	wantNext(t, d, r, 3, api.OK, 3)
	wantNext(t, d, r, 6, api.OK, 2)
	wantNext(t, d, r, 1, api.OK, 0)
}

// P202: where bits end within a code nothing was taken.
func TestNextAtTheEnd(t *testing.T) {
	d := decoder(t, chain(huff.MaxBits)...)
	for n := range huff.MaxBits {
		r := readerOf(t, strings.Repeat("1", n))
		wantNext(t, d, r, 0, api.ErrEnd, n)
		wantNext(t, d, r, 0, api.ErrEnd, n)
		for range n {
			if bit, e := r.Take(1); bit != 1 || e != api.OK {
				t.Errorf("bits behind ErrEnd: %d, %d", bit, e)
			}
		}
	}
	r := readerOf(t, "111111111111111"+"111111111111110"+"0")
	wantNext(t, d, r, 15, api.OK, 16)
	wantNext(t, d, r, 14, api.OK, 1)
	wantNext(t, d, r, 0, api.OK, 0)
	wantNext(t, d, r, 0, api.ErrEnd, 0)
	for _, l := range [][]int{chain(huff.MaxBits), {2, 1, 3, 3}, {1, 1}, {1}, {0, 1}, with(repeat(0, huff.MaxSyms), huff.MaxSyms-1, 1)} {
		wantNext(t, decoder(t, l...), bits.NewReader(nil), 0, api.ErrEnd, 0)
		wantNext(t, decoder(t, l...), spent(t), 0, api.ErrEnd, 0)
	}
}

// P202: bits that begin no code are told as soon as they are there, and nothing was taken. Where there is no code none begins one, not even no bits.
func TestNextOfNoCode(t *testing.T) {
	for _, d := range []*huff.Decoder{decoder(t, 1), decoder(t, 1, 0, 0), decoder(t, with(repeat(0, huff.MaxSyms), 0, 1)...)} {
		r := readerOf(t, "0"+"1")
		wantNext(t, d, r, 0, api.OK, 1)
		wantNext(t, d, r, 0, api.ErrCode, 1)
		wantNext(t, d, r, 0, api.ErrCode, 1)
		if bit, e := r.Take(1); bit != 1 || e != api.OK {
			t.Errorf("bits behind ErrCode: %d, %d", bit, e)
		}
		wantNext(t, d, r, 0, api.ErrEnd, 0)
	}
	d := decoder(t, 0, 0, 1)
	r := readerOf(t, "0"+"0"+"10")
	wantNext(t, d, r, 2, api.OK, 3)
	wantNext(t, d, r, 2, api.OK, 2)
	wantNext(t, d, r, 0, api.ErrCode, 2)
	for _, d := range []*huff.Decoder{decoder(t), decoder(t, 0), decoder(t, 0, 0, 0), decoder(t, repeat(0, huff.MaxSyms)...)} {
		wantNext(t, d, readerOf(t, "0"), 0, api.ErrCode, 1)
		wantNext(t, d, readerOf(t, "1"), 0, api.ErrCode, 1)
		wantNext(t, d, readerOf(t, "01101001011010010"), 0, api.ErrCode, 17)
		wantNext(t, d, bits.NewReader(nil), 0, api.ErrCode, 0)
		wantNext(t, d, bits.NewReader([]byte{}), 0, api.ErrCode, 0)
		wantNext(t, d, spent(t), 0, api.ErrCode, 0)
	}
}

// P202: a nil decoder, a nil reader.
func TestNextOfNil(t *testing.T) {
	var none *huff.Decoder
	r := bits.NewReader([]byte{0xff})
	wantNext(t, none, r, 0, api.ErrNil, 8)
	wantNext(t, none, nil, 0, api.ErrNil, 0)
	wantNext(t, decoder(t, 1, 1), nil, 0, api.ErrNil, 0)
	wantNext(t, decoder(t), nil, 0, api.ErrNil, 0)
}

// P202, rule 4: a decoder keeps nothing of what it was made of, and two decoders may read of one reader.
func TestDecoderSharesNothing(t *testing.T) {
	l := []int{2, 1, 3, 3}
	d, _ := huff.New(l)
	for i := range l {
		l[i] = 9
	}
	other := decoder(t, 2, 2, 2, 2)
	r := readerOf(t, "111"+"11"+"10"+"01"+"0")
	wantNext(t, d, r, 3, api.OK, 7)
	wantNext(t, other, r, 3, api.OK, 5)
	wantNext(t, d, r, 0, api.OK, 3)
	wantNext(t, other, r, 1, api.OK, 1)
	wantNext(t, other, r, 0, api.ErrEnd, 1)
	wantNext(t, d, r, 1, api.OK, 0)
}

// leastCost is the least Cost of codes with at most limit bits, by trying all: rare symbols have no shorter codes, so lengths go up along the freqs.
func leastCost(freqs []int, limit int) int {
	used := []int{}
	for _, f := range freqs {
		if f > 0 {
			used = append(used, f)
		}
	}
	if len(used) < 2 {
		return huff.Cost(used, repeat(1, len(used)))
	}
	slices.Sort(used)
	slices.Reverse(used)
	room := 1 << limit
	type state struct{ length, taken int } // the last symbol's length, and the room that all so far take up
	now := map[state]int{{0, 0}: 0}
	for _, f := range used {
		next := map[state]int{}
		for s, cost := range now {
			for n := max(1, s.length); n <= limit; n++ {
				to := state{n, s.taken + room>>n}
				if old, ok := next[to]; to.taken <= room && (!ok || cost+f*n < old) {
					next[to] = cost + f*n
				}
			}
		}
		now = next
	}
	best := math.MaxInt
	for _, cost := range now {
		best = min(best, cost)
	}
	return best
}

// wantLengths asks Lengths for what P203 says of them, and answers them.
func wantLengths(t *testing.T, freqs []int, limit int) []int {
	t.Helper()
	l, e := huff.Lengths(freqs, limit)
	if e != api.OK || len(l) != len(freqs) {
		t.Fatalf("Lengths(%v, %d): %v, %d", freqs, limit, l, e)
	}
	if _, e := huff.Codes(l); e != api.OK {
		t.Errorf("Lengths(%v, %d): %v is not right", freqs, limit, l)
	}
	for i, n := range l {
		if n < 0 || n > limit || (n == 0) != (freqs[i] == 0) {
			t.Errorf("Lengths(%v, %d): %v: length of %d", freqs, limit, l, i)
		}
	}
	return l
}

// wantCheapest asks for the Cost of Lengths too.
func wantCheapest(t *testing.T, freqs []int, limit int) {
	t.Helper()
	l := wantLengths(t, freqs, limit)
	if got, want := huff.Cost(freqs, l), leastCost(freqs, limit); got != want {
		t.Errorf("Lengths(%v, %d): %v costs %d, not %d", freqs, limit, l, got, want)
	}
}

func wantRefused(t *testing.T, freqs []int, limit int) {
	t.Helper()
	if l, e := huff.Lengths(freqs, limit); e != api.ErrArg || len(l) > 0 {
		t.Errorf("Lengths(%v, %d): %v, %d, not nothing, %d", freqs, limit, l, e, api.ErrArg)
	}
}

// P203: where just one answer is right.
func TestLengths(t *testing.T) {
	for _, c := range []struct {
		freqs   []int
		limit   int
		lengths []int
		cost    int
	}{
		{[]int{5, 1, 1, 0}, 15, []int{1, 2, 2, 0}, 9},
		{[]int{1, 2, 4, 8, 16}, 15, []int{4, 4, 3, 2, 1}, 56},
		{[]int{16, 0, 8, 4, 2, 1}, 15, []int{1, 0, 2, 3, 4, 4}, 56},
		{[]int{1, 2, 4, 8, 16}, 4, []int{4, 4, 3, 2, 1}, 56},
		{[]int{1, 2, 4, 80}, 2, []int{2, 2, 2, 2}, 174},
		{[]int{1, 1, 1, 1}, 15, []int{2, 2, 2, 2}, 8},
		{[]int{7, 9}, 1, []int{1, 1}, 16},
		{[]int{0, 3, 0, 1 << 30}, 15, []int{0, 1, 0, 1}, 3 + 1<<30},
	} {
		l := wantLengths(t, c.freqs, c.limit)
		if cost := huff.Cost(c.freqs, l); !slices.Equal(l, c.lengths) || cost != c.cost {
			t.Errorf("Lengths(%v, %d): %v, cost %d, not %v, cost %d", c.freqs, c.limit, l, cost, c.lengths, c.cost)
		}
	}
}

// P203: none that comes, and one alone.
func TestLengthsOfFew(t *testing.T) {
	for _, limit := range []int{1, 2, 15} {
		wantLengths(t, nil, limit)
		wantLengths(t, []int{}, limit)
		wantLengths(t, []int{0}, limit)
		wantLengths(t, repeat(0, huff.MaxSyms), limit)
		for _, freq := range []int{1, 2, 1 << 30} {
			if l := wantLengths(t, []int{0, freq, 0}, limit); !slices.Equal(l, []int{0, 1, 0}) {
				t.Errorf("Lengths of one alone: %v", l)
			}
			if l := wantLengths(t, []int{freq}, limit); !slices.Equal(l, []int{1}) {
				t.Errorf("Lengths of one alone: %v", l)
			}
		}
	}
}

// P203: a limit that is just enough, and one that is not, of every number of symbols.
func TestLengthsLimits(t *testing.T) {
	for many := 1; many <= huff.MaxSyms; many++ {
		freqs := []int{}
		for i := range many {
			freqs = append(freqs, 1+i*i)
		}
		for limit := 1; limit <= huff.MaxBits; limit++ {
			if 1<<limit < many {
				wantRefused(t, freqs, limit)
			} else {
				wantLengths(t, freqs, limit)
			}
		}
	}
	wantLengths(t, []int{1, 0, 0, 0, 1}, 1) // only those that come are counted
	wantRefused(t, []int{1, 0, 0, 1, 1}, 1)
	wantRefused(t, []int{1, 1, 1, 1, 1}, 2)
	wantRefused(t, repeat(1, 257), 8)
	if l := wantLengths(t, repeat(1<<30, 256), 8); !slices.Equal(l, repeat(8, 256)) {
		t.Errorf("Lengths of 256 alike: %v", l)
	}
}

// P203: arguments that can't be.
func TestLengthsWrongArguments(t *testing.T) {
	for _, limit := range []int{0, -1, 16, 64, math.MinInt, math.MaxInt} {
		wantRefused(t, []int{1, 1}, limit)
		wantRefused(t, nil, limit)
		wantRefused(t, []int{0}, limit)
		wantRefused(t, []int{1}, limit)
	}
	for _, freq := range []int{-1, 1<<30 + 1, math.MinInt, math.MaxInt} {
		wantRefused(t, []int{freq}, 15)
		wantRefused(t, []int{1, 2, freq}, 15)
		wantRefused(t, []int{freq, 0, 0}, 1)
	}
	wantRefused(t, repeat(0, huff.MaxSyms+1), 15)
	wantRefused(t, repeat(1, huff.MaxSyms+1), 15)
	wantLengths(t, repeat(1, huff.MaxSyms), 15)
	wantLengths(t, repeat(1<<30, huff.MaxSyms), 9)
}

// P203: of few symbols, all freqs up to 4 and some that grow as fast as the limit can bear.
func TestLengthsAreCheapest(t *testing.T) {
	for number := range 5 * 5 * 5 * 5 * 5 {
		freqs := []int{number % 5, number / 5 % 5, number / 25 % 5, number / 125 % 5, number / 625}
		wantCheapest(t, freqs, 3)
		wantCheapest(t, freqs, 4)
	}
	fibonacci := []int{1, 1}
	for len(fibonacci) < 40 {
		fibonacci = append(fibonacci, fibonacci[len(fibonacci)-1]+fibonacci[len(fibonacci)-2])
	}
	for _, limit := range []int{6, 7, 8, 12} {
		wantCheapest(t, fibonacci, limit)
		wantCheapest(t, fibonacci[:25], limit)
	}
	wantCheapest(t, fibonacci[:16], 15)
	wantCheapest(t, fibonacci[:17], 15)
}

// P203: of many symbols, by chance that is the same each time.
func TestLengthsAreCheapestOfMany(t *testing.T) {
	chance := rand.New(rand.NewSource(2))
	for range 150 {
		freqs := make([]int, 1+chance.Intn(60))
		top := 1 << chance.Intn(31)
		for i := range freqs {
			freqs[i] = chance.Intn(top+1) >> chance.Intn(31)
		}
		for _, limit := range []int{6, 7, 8} {
			wantCheapest(t, freqs, limit)
		}
	}
	freqs := make([]int, huff.MaxSyms)
	for i := range freqs {
		freqs[i] = 1 + chance.Intn(1<<30)>>chance.Intn(31)
	}
	wantCheapest(t, freqs, 9)
}

// P203, rule 4: what is handed in stays, spare room too; the same freqs have the same lengths, in memory of their own.
func TestLengthsShareNothing(t *testing.T) {
	room := []int{3, 9, 1, 4, 77, 78}
	freqs := room[:4]
	a, _ := huff.Lengths(freqs, 15)
	b, _ := huff.Lengths(freqs, 15)
	if !slices.Equal(room, []int{3, 9, 1, 4, 77, 78}) {
		t.Errorf("freqs behind Lengths: %v", room)
	}
	if !slices.Equal(a, b) {
		t.Errorf("Lengths twice: %v, %v", a, b)
	}
	a[0] = 99
	if again, _ := huff.Lengths(freqs, 15); !slices.Equal(b, again) {
		t.Errorf("Lengths again: %v, not %v", again, b)
	}
	lengths := []int{2, 1, 3, 3, 77}
	c, _ := huff.Codes(lengths[:4])
	c[0] = 99
	wantCodes(t, lengths[:4], 2, 0, 6, 7)
	if !slices.Equal(lengths, []int{2, 1, 3, 3, 77}) {
		t.Errorf("lengths behind Codes: %v", lengths)
	}
}

func wantCost(t *testing.T, freqs, lengths []int, want int) {
	t.Helper()
	if got := huff.Cost(freqs, lengths); got != want {
		t.Errorf("Cost(%v, %v): %d, not %d", freqs, lengths, got, want)
	}
}

// P203: the sum, as far as both lists go, of whatever sign.
func TestCost(t *testing.T) {
	wantCost(t, nil, nil, 0)
	wantCost(t, []int{5, 1, 1, 0}, []int{1, 2, 2, 0}, 9)
	wantCost(t, []int{5, 1, 1, 7}, []int{1, 2}, 7)
	wantCost(t, []int{5, 1}, []int{1, 2, 9, 9}, 7)
	wantCost(t, []int{5}, nil, 0)
	wantCost(t, nil, []int{5}, 0)
	wantCost(t, []int{-3, 4}, []int{5, -6}, -39)
	wantCost(t, []int{-3}, []int{-5}, 15)
	wantCost(t, []int{3, -3}, []int{5, 5}, 0)
	wantCost(t, repeat(1, 1000), repeat(7, 1000), 7000) // more than MaxSyms
}

// P203: Cost's bounds of factors, each met and passed by one.
func TestCostBoundsOfFactors(t *testing.T) {
	const none = 1 << 62
	wantCost(t, []int{1 << 40}, []int{1}, 1<<40)
	wantCost(t, []int{-1 << 40}, []int{1}, -1<<40)
	wantCost(t, []int{1}, []int{1 << 20}, 1<<20)
	wantCost(t, []int{1}, []int{-1 << 20}, -1<<20)
	wantCost(t, []int{1 << 40}, []int{-1 << 20}, -1<<60)
	for _, freq := range []int{1<<40 + 1, -1<<40 - 1, math.MaxInt, math.MinInt} {
		wantCost(t, []int{freq}, []int{1}, none)
		wantCost(t, []int{1, freq}, []int{1, -1}, none)
		wantCost(t, []int{freq}, []int{0}, 0) // it does not count
		wantCost(t, []int{2, freq}, []int{3}, 6)
	}
	for _, length := range []int{1<<20 + 1, -1<<20 - 1, math.MaxInt, math.MinInt} {
		wantCost(t, []int{1}, []int{length}, none)
		wantCost(t, []int{-1, 2}, []int{1, length}, none)
		wantCost(t, []int{0, 2}, []int{length, 5}, 10)
		wantCost(t, []int{2}, []int{3, length}, 6)
	}
}

// P203: Cost's bounds of the sum so far.
func TestCostBoundsOfTheSum(t *testing.T) {
	const none = 1 << 62
	big, long := 1<<40, 1<<20 // twice their product is the bound
	wantCost(t, []int{big, big}, []int{long, long}, 1<<61)
	wantCost(t, []int{big, big}, []int{-long, -long}, -1<<61)
	wantCost(t, []int{big, big, 0, 1}, []int{long, long, 1, 0}, 1<<61)
	wantCost(t, []int{big, big, 1}, []int{long, long, 1}, none)
	wantCost(t, []int{big, big, -1}, []int{-long, -long, 1}, none)
	wantCost(t, []int{big, big, 1, -1}, []int{long, long, 1, 1}, none) // what was summed so far is asked, not the end
	wantCost(t, []int{big, big, -1, 1}, []int{long, long, 1, 1}, 1<<61)
	wantCost(t, []int{big, big, big}, []int{long, long, long}, none)
	wantCost(t, repeat(-big, 9), repeat(long, 9), none)
}

// someLengths answers lengths that are right, by splitting codes by chance.
func someLengths(chance *rand.Rand) []int {
	l := []int{1, 1}
	for range chance.Intn(huff.MaxSyms - 2) {
		if i := chance.Intn(len(l)); l[i] < huff.MaxBits {
			l[i]++
			l = append(l, l[i])
		}
	}
	for range chance.Intn(huff.MaxSyms - len(l) + 1) {
		l = append(l, 0)
	}
	chance.Shuffle(len(l), func(i, j int) { l[i], l[j] = l[j], l[i] })
	return l
}

// P204: no code is the beginning of another one, and each fits in its length.
func TestNoCodeBeginsAnother(t *testing.T) {
	chance := rand.New(rand.NewSource(4))
	for range 60 {
		l := someLengths(chance)
		codes, e := huff.Codes(l)
		if e != api.OK || !huff.Full(l) {
			t.Fatalf("Codes(%v): %d", l, e)
		}
		for i, code := range codes {
			if code>>l[i] != 0 {
				t.Errorf("code of %d bits: %b", l[i], code)
			}
			for j, other := range codes {
				if i != j && l[i] > 0 && l[j] >= l[i] && other>>(l[j]-l[i]) == code {
					t.Errorf("code %b of %d bits begins %b of %d", code, l[i], other, l[j])
				}
			}
		}
	}
}

// P204: what is written by Codes is read by Next, to the last bit.
func TestWrittenIsRead(t *testing.T) {
	chance := rand.New(rand.NewSource(5))
	for range 100 {
		l := someLengths(chance)
		codes, _ := huff.Codes(l)
		d := decoder(t, l...)
		w := bits.NewWriter()
		text := []int{}
		for len(text) < 300 {
			if symbol := chance.Intn(len(l)); l[symbol] > 0 {
				text = append(text, symbol)
				putCode(w, codes[symbol], l[symbol])
			}
		}
		r := bits.NewReader(w.Done())
		left := r.Left()
		for _, symbol := range text {
			left -= l[symbol]
			wantNext(t, d, r, symbol, api.OK, left)
		}
	}
}

// P204: the codes of Lengths are written and read as well, one symbol alone too.
func TestWrittenByLengthsIsRead(t *testing.T) {
	for _, freqs := range [][]int{{0, 0, 7}, {3}, {1, 1}, {9, 0, 1, 1, 0, 1, 4, 1 << 30}, repeat(3, huff.MaxSyms)} {
		l := wantLengths(t, freqs, 15)
		codes, _ := huff.Codes(l)
		d := decoder(t, l...)
		for symbol, n := range l {
			if n == 0 {
				continue
			}
			w := bits.NewWriter()
			putCode(w, codes[symbol], n)
			r := bits.NewReader(w.Done())
			wantNext(t, d, r, symbol, api.OK, r.Left()-n)
		}
	}
}
