package bits_test

import (
	"bytes"
	"hash/crc32"
	"math"
	mathbits "math/bits"
	"math/rand"
	"testing"

	"quire/api"
	"quire/bits"
)

// wantTake asks one Take, and how many bits are left behind it.
func wantTake(t *testing.T, r *bits.Reader, n int, v uint32, e api.Errno, left int) {
	t.Helper()
	gotV, gotE := r.Take(n)
	if gotV != v || gotE != e {
		t.Errorf("Take(%d): %#x, %d, not %#x, %d", n, gotV, gotE, v, e)
	}
	wantLeft(t, r, left)
}

// wantBytes asks one Bytes, and how many bits are left behind it.
func wantBytes(t *testing.T, r *bits.Reader, n int, b []byte, e api.Errno, left int) {
	t.Helper()
	gotB, gotE := r.Bytes(n)
	if !bytes.Equal(gotB, b) || gotE != e {
		t.Errorf("Bytes(%d): %v, %d, not %v, %d", n, gotB, gotE, b, e)
	}
	wantLeft(t, r, left)
}

func wantLeft(t *testing.T, r *bits.Reader, left int) {
	t.Helper()
	if got := r.Left(); got != left {
		t.Errorf("Left: %d, not %d", got, left)
	}
}

func wantPut(t *testing.T, w *bits.Writer, v uint32, n int, e api.Errno) {
	t.Helper()
	if got := w.Put(v, n); got != e {
		t.Errorf("Put(%#x, %d): %d, not %d", v, n, got, e)
	}
}

// wantDone asks Len and Done, and Len again, since Done writes nothing.
func wantDone(t *testing.T, w *bits.Writer, length int, b ...byte) {
	t.Helper()
	if got := w.Len(); got != length {
		t.Errorf("Len: %d, not %d", got, length)
	}
	if got := w.Done(); !bytes.Equal(got, b) {
		t.Errorf("Done: %v, not %v", got, b)
	}
	if got := w.Len(); got != length {
		t.Errorf("Len behind Done: %d, not %d", got, length)
	}
}

// P101: from the lowest bit up, and over the border of bytes.
func TestTakeLowestBitFirst(t *testing.T) {
	r := bits.NewReader([]byte{0b10110010, 0b01011101})
	wantTake(t, r, 1, 0, api.OK, 15)
	wantTake(t, r, 2, 0b01, api.OK, 13)
	wantTake(t, r, 3, 0b110, api.OK, 10)
	wantTake(t, r, 5, 0b10110, api.OK, 5)
	wantTake(t, r, 5, 0b01011, api.OK, 0)
}

// P101: 0 and 32 are the edges of what may be taken at once.
func TestTakeEdges(t *testing.T) {
	r := bits.NewReader([]byte{0x78, 0x56, 0x34, 0x12, 0xff})
	wantTake(t, r, 0, 0, api.OK, 40)
	wantTake(t, r, 4, 8, api.OK, 36)
	wantTake(t, r, 32, 0xf1234567, api.OK, 4)
	wantTake(t, r, 0, 0, api.OK, 4)
	r = bits.NewReader([]byte{0xef, 0xbe, 0xad, 0xde})
	wantTake(t, r, 32, 0xdeadbeef, api.OK, 0)
}

// P101: an n that can't be is refused, and nothing is taken, wherever the reader stands.
func TestTakeWrongCount(t *testing.T) {
	r := bits.NewReader([]byte{1, 2, 3, 4, 5})
	wantTake(t, r, 3, 1, api.OK, 37)
	for _, n := range []int{-1, 33, math.MinInt, math.MaxInt} {
		wantTake(t, r, n, 0, api.ErrArg, 37)
	}
	empty := bits.NewReader(nil)
	wantTake(t, empty, -1, 0, api.ErrArg, 0)
	wantTake(t, empty, 33, 0, api.ErrArg, 0)
}

// P101: with ErrEnd nothing is taken; what is there can still be had.
func TestTakeBeyondTheEnd(t *testing.T) {
	r := bits.NewReader([]byte{0b10100000})
	wantTake(t, r, 5, 0, api.OK, 3)
	wantTake(t, r, 4, 0, api.ErrEnd, 3)
	wantTake(t, r, 32, 0, api.ErrEnd, 3)
	wantTake(t, r, 3, 0b101, api.OK, 0)
	wantTake(t, r, 1, 0, api.ErrEnd, 0)
	wantTake(t, r, 0, 0, api.OK, 0)
	for _, none := range [][]byte{nil, {}} {
		r = bits.NewReader(none)
		wantTake(t, r, 0, 0, api.OK, 0)
		wantTake(t, r, 1, 0, api.ErrEnd, 0)
	}
}

// P101: only a byte that was begun has a rest.
func TestReaderAlign(t *testing.T) {
	r := bits.NewReader([]byte{1, 2, 3})
	r.Align()
	wantLeft(t, r, 24)
	wantTake(t, r, 1, 1, api.OK, 23)
	r.Align()
	wantLeft(t, r, 16)
	r.Align()
	wantLeft(t, r, 16)
	wantTake(t, r, 8, 2, api.OK, 8)
	r.Align()
	wantLeft(t, r, 8)
	wantTake(t, r, 7, 3, api.OK, 1)
	r.Align()
	wantLeft(t, r, 0)
	r.Align()
	wantLeft(t, r, 0)
}

// P101: bytes come from the next whole one on.
func TestReaderBytes(t *testing.T) {
	r := bits.NewReader([]byte{9, 8, 7, 6, 5})
	wantBytes(t, r, 1, []byte{9}, api.OK, 32)
	wantTake(t, r, 1, 0, api.OK, 31)
	wantBytes(t, r, 0, nil, api.OK, 24)
	wantTake(t, r, 2, 3, api.OK, 22)
	wantBytes(t, r, 2, []byte{6, 5}, api.OK, 0)
	wantBytes(t, r, 0, nil, api.OK, 0)
	wantBytes(t, r, 1, nil, api.ErrEnd, 0)
}

// P101: a count below 0 leaves even the byte that was begun; ErrEnd does not.
func TestReaderBytesErrors(t *testing.T) {
	r := bits.NewReader([]byte{9, 8, 7})
	wantTake(t, r, 3, 1, api.OK, 21)
	wantBytes(t, r, -1, nil, api.ErrArg, 21)
	wantBytes(t, r, math.MinInt, nil, api.ErrArg, 21)
	wantBytes(t, r, 3, nil, api.ErrEnd, 16)
	wantTake(t, r, 1, 0, api.OK, 15)
	wantBytes(t, r, math.MaxInt, nil, api.ErrEnd, 8)
	wantBytes(t, r, math.MaxInt/8+1, nil, api.ErrEnd, 8)
	wantBytes(t, r, 1, []byte{7}, api.OK, 0)
	r = bits.NewReader([]byte{9})
	wantTake(t, r, 1, 1, api.OK, 7)
	wantBytes(t, r, 1, nil, api.ErrEnd, 0)
}

// P101: of a nil reader ErrNil comes ahead of what is wrong with n.
func TestNilReader(t *testing.T) {
	var r *bits.Reader
	for _, n := range []int{0, 1, 32, -1, 33} {
		wantTake(t, r, n, 0, api.ErrNil, 0)
		wantBytes(t, r, n, nil, api.ErrNil, 0)
	}
	r.Align()
	wantLeft(t, r, 0)
}

// Rule 4: a reader keeps nothing of what it was given, and gives nothing out that it keeps.
func TestReaderSharesNothing(t *testing.T) {
	room := []byte{1, 2, 3, 4, 0xaa, 0xbb}
	given := room[:4]
	r := bits.NewReader(given)
	first, _ := r.Bytes(2)
	for i := range given {
		given[i] = 0xee
	}
	full := first[:cap(first)]
	for i := range full {
		full[i] = 0xdd
	}
	wantBytes(t, r, 2, []byte{3, 4}, api.OK, 0)
	if !bytes.Equal(room, []byte{0xee, 0xee, 0xee, 0xee, 0xaa, 0xbb}) {
		t.Errorf("what was given is changed: %v", room)
	}
}

// Rule 5: two readers of the same bytes share nothing.
func TestReadersAreApart(t *testing.T) {
	b := []byte{0x5a, 0xa5}
	one, two := bits.NewReader(b), bits.NewReader(b)
	wantTake(t, one, 5, 0x1a, api.OK, 11)
	wantTake(t, two, 8, 0x5a, api.OK, 8)
	wantTake(t, one, 11, 0x52a, api.OK, 0)
	wantTake(t, two, 8, 0xa5, api.OK, 0)
}

// P102, and the chapter's example.
func TestPutLowestBitFirst(t *testing.T) {
	w := bits.NewWriter()
	wantDone(t, w, 0)
	wantPut(t, w, 1, 1, api.OK)
	wantPut(t, w, 2, 3, api.OK)
	wantDone(t, w, 4, 5)
	wantPut(t, w, 0b101101, 6, api.OK)
	wantDone(t, w, 10, 0b11010101, 0b10)
}

// P102: 0 and 32 are the edges; bits of v above the lowest n don't count.
func TestPutEdges(t *testing.T) {
	w := bits.NewWriter()
	wantPut(t, w, math.MaxUint32, 0, api.OK)
	wantDone(t, w, 0)
	wantPut(t, w, math.MaxUint32, 1, api.OK)
	wantPut(t, w, 0xfffffff0, 4, api.OK)
	wantDone(t, w, 5, 1)
	wantPut(t, w, 0xdeadbeef, 32, api.OK)
	wantDone(t, w, 37, 0xe1, 0xdd, 0xb7, 0xd5, 0x1b)
	w = bits.NewWriter()
	wantPut(t, w, 0xdeadbeef, 32, api.OK)
	wantDone(t, w, 32, 0xef, 0xbe, 0xad, 0xde)
}

// P102: an n that can't be is refused, and nothing is written.
func TestPutWrongCount(t *testing.T) {
	w := bits.NewWriter()
	wantPut(t, w, 5, 3, api.OK)
	for _, n := range []int{-1, 33, math.MinInt, math.MaxInt} {
		wantPut(t, w, math.MaxUint32, n, api.ErrArg)
	}
	wantDone(t, w, 3, 5)
}

// P102: only a byte that was begun is filled.
func TestWriterAlign(t *testing.T) {
	w := bits.NewWriter()
	w.Align()
	wantDone(t, w, 0)
	wantPut(t, w, 1, 1, api.OK)
	w.Align()
	wantDone(t, w, 8, 1)
	w.Align()
	wantDone(t, w, 8, 1)
	wantPut(t, w, 3, 2, api.OK)
	wantDone(t, w, 10, 1, 3)
	wantPut(t, w, 0, 6, api.OK)
	w.Align()
	wantDone(t, w, 16, 1, 3)
}

// P102: bytes begin at a whole one; even no bytes align.
func TestWriterBytes(t *testing.T) {
	w := bits.NewWriter()
	w.Bytes(nil)
	w.Bytes([]byte{})
	wantDone(t, w, 0)
	w.Bytes([]byte{7, 8})
	wantDone(t, w, 16, 7, 8)
	for i, none := range [][]byte{nil, {}} {
		wantPut(t, w, 1, 1, api.OK)
		w.Bytes(none)
		if want := 24 + 8*i; w.Len() != want {
			t.Errorf("Len behind no bytes: %d, not %d", w.Len(), want)
		}
	}
	wantPut(t, w, 3, 2, api.OK)
	w.Bytes([]byte{9})
	wantDone(t, w, 48, 7, 8, 1, 1, 3, 9)
}

// P102: Done writes nothing: the byte that was begun goes on behind it.
func TestWritingOnBehindDone(t *testing.T) {
	w := bits.NewWriter()
	wantPut(t, w, 1, 1, api.OK)
	wantDone(t, w, 1, 1)
	wantPut(t, w, 1, 1, api.OK)
	wantDone(t, w, 2, 3)
	wantPut(t, w, 0x1ff, 9, api.OK)
	wantDone(t, w, 11, 0xff, 7)
	w.Align()
	wantPut(t, w, 1, 1, api.OK)
	wantDone(t, w, 17, 0xff, 7, 1)
	w.Bytes([]byte{4})
	wantDone(t, w, 32, 0xff, 7, 1, 4)
}

// P102: a nil writer writes nothing.
func TestNilWriter(t *testing.T) {
	var w *bits.Writer
	for _, n := range []int{0, 1, 32, -1, 33} {
		wantPut(t, w, 1, n, api.ErrNil)
	}
	w.Align()
	w.Bytes([]byte{1})
	w.Bytes(nil)
	wantDone(t, w, 0)
}

// Rule 4: a writer keeps nothing of what it was given, and gives nothing out that it keeps.
func TestWriterSharesNothing(t *testing.T) {
	room := []byte{1, 2, 0xaa}
	given := room[:2]
	w := bits.NewWriter()
	w.Bytes(given)
	wantPut(t, w, 3, 2, api.OK)
	given[0] = 0xee
	first := w.Done()
	full := first[:cap(first)]
	for i := range full {
		full[i] = 0xdd
	}
	wantDone(t, w, 18, 1, 2, 3)
	wantPut(t, w, 1, 2, api.OK)
	w.Bytes([]byte{9})
	wantDone(t, w, 32, 1, 2, 7, 9)
	for _, b := range full {
		if b != 0xdd {
			t.Fatalf("what was handed out has changed: %v", full)
		}
	}
	if !bytes.Equal(room, []byte{0xee, 2, 0xaa}) {
		t.Errorf("what was given is changed: %v", room)
	}
}

// P103: the lowest n bits alone, with n held between 0 and 32.
func TestReverse(t *testing.T) {
	for _, c := range []struct {
		v    uint32
		n    int
		want uint32
	}{
		{3, 3, 6}, {0b1101, 4, 0b1011}, {0b1101, 3, 0b101}, {1, 1, 1}, {0xfffffffe, 1, 0},
		{0xffffffff, 0, 0}, {0xffffffff, -1, 0}, {0xffffffff, math.MinInt, 0},
		{1, 32, 0x80000000}, {1, 33, 0x80000000}, {0x12345678, 32, 0x1e6a2c48},
		{0x12345678, math.MaxInt, 0x1e6a2c48}, {0x80000000, 31, 0}, {0x40000000, 31, 1},
	} {
		if got := bits.Reverse(c.v, c.n); got != c.want {
			t.Errorf("Reverse(%#x, %d): %#x, not %#x", c.v, c.n, got, c.want)
		}
	}
}

// P103 and P104: against another way of reversing, at all widths.
func TestReverseTwice(t *testing.T) {
	source := rand.New(rand.NewSource(103))
	for range 200 {
		v := source.Uint32()
		for n := range 33 {
			once := bits.Reverse(v, n)
			if want := mathbits.Reverse32(v) >> (32 - n); once != want {
				t.Fatalf("Reverse(%#x, %d): %#x, not %#x", v, n, once, want)
			}
			lowest := uint32(uint64(v) & (1<<n - 1))
			if twice := bits.Reverse(once, n); twice != lowest {
				t.Fatalf("Reverse twice of %#x, %d: %#x, not %#x", v, n, twice, lowest)
			}
		}
	}
}

// P103: sums that are known, and those of another maker.
func TestCrc(t *testing.T) {
	for _, c := range []struct {
		text string
		want uint32
	}{
		{"123456789", 0xCBF43926}, {"", 0}, {"a", 0xE8B7BE43}, {"\x00", 0xD202EF8D}, {"\xff\xff\xff\xff", 0xFFFFFFFF},
	} {
		if got := bits.Crc([]byte(c.text)); got != c.want {
			t.Errorf("Crc(%q): %#x, not %#x", c.text, got, c.want)
		}
	}
	if got := bits.Crc(nil); got != 0 {
		t.Errorf("Crc(nil): %#x", got)
	}
	source := rand.New(rand.NewSource(104))
	for n := range 300 {
		b := make([]byte, n)
		source.Read(b)
		if got, want := bits.Crc(b), crc32.ChecksumIEEE(b); got != want {
			t.Fatalf("Crc(%v): %#x, not %#x", b, got, want)
		}
	}
}

// piece: what one call wrote.
type piece struct {
	kind, n int
	v       uint32
	b       []byte
}

// writeAtRandom writes pieces, and answers them; done in between must not matter.
func writeAtRandom(t *testing.T, source *rand.Rand, w *bits.Writer) []piece {
	var l []piece
	for range source.Intn(40) {
		p := piece{kind: source.Intn(8)}
		switch p.kind {
		case 0:
			w.Align()
		case 1:
			p.b = make([]byte, source.Intn(5))
			source.Read(p.b)
			w.Bytes(p.b)
		case 2:
			w.Done()
		default:
			p.n = source.Intn(33)
			v := source.Uint32()
			wantPut(t, w, v, p.n, api.OK)
			p.v = uint32(uint64(v) & (1<<p.n - 1))
		}
		l = append(l, p)
	}
	return l
}

// P104: whatever was put, in whatever order, is taken again, and nothing but filling bits 0 is left.
func TestWhatWasPutIsTaken(t *testing.T) {
	source := rand.New(rand.NewSource(105))
	for range 500 {
		w := bits.NewWriter()
		l := writeAtRandom(t, source, w)
		done := w.Done()
		if want := (w.Len() + 7) / 8; len(done) != want {
			t.Fatalf("%d bits in %d bytes, not %d", w.Len(), len(done), want)
		}
		r := bits.NewReader(done)
		for _, p := range l {
			switch p.kind {
			case 0:
				r.Align()
			case 1:
				wantBytes(t, r, len(p.b), p.b, api.OK, (r.Left()/8-len(p.b))*8)
			case 2:
			default:
				wantTake(t, r, p.n, p.v, api.OK, r.Left()-p.n)
			}
		}
		fill := 8*len(done) - w.Len()
		wantLeft(t, r, fill)
		wantTake(t, r, fill, 0, api.OK, 0)
		if t.Failed() {
			t.Fatalf("of the pieces %v", l)
		}
	}
}
