// Package bits is layer 1: bits out of bytes, and into them, the lowest bit first; a check sum. See shared/doc/01-bits.md.
package bits

import (
	"bytes"
	"iter"

	"quire/api"
)

// most bits that one Take, Put or Reverse deals with.
const most = 32

// polynomial of ZIP's CRC-32, reflected, since bits come the lowest first.
const polynomial = 0xEDB88320

// stretch hands out n bits of data from bit number at on, each with its number among them. They must be there.
func stretch(data []byte, at, n int) iter.Seq2[int, uint32] {
	return func(yield func(int, uint32) bool) {
		for i := range n {
			place := at + i
			if !yield(i, uint32(data[place/8]>>(place%8))&1) {
				return
			}
		}
	}
}

// Reader takes bits out of bytes.
type Reader struct {
	data []byte
	at   int // how many bits were taken or passed over
}

// NewReader makes a reader of a copy, so that the caller may go on writing into b.
func NewReader(b []byte) *Reader { return &Reader{data: bytes.Clone(b)} }

// Take answers the next n bits as a number, the first one its lowest.
func (r *Reader) Take(n int) (uint32, api.Errno) {
	if r == nil {
		return 0, api.ErrNil
	}
	if n < 0 || n > most {
		return 0, api.ErrArg
	}
	if n > r.Left() {
		return 0, api.ErrEnd
	}
	var v uint32
	for i, bit := range stretch(r.data, r.at, n) {
		v |= bit << i
	}
	r.at += n
	return v, api.OK
}

// Align passes over the rest of a byte that was begun.
func (r *Reader) Align() {
	if r != nil {
		r.at = (r.at + 7) / 8 * 8
	}
}

// Bytes aligns, and answers the next n bytes. The aligning stays even where there are not as many.
func (r *Reader) Bytes(n int) ([]byte, api.Errno) {
	if r == nil {
		return nil, api.ErrNil
	}
	if n < 0 {
		return nil, api.ErrArg
	}
	r.Align()
	rest := r.data[r.at/8:]
	if n > len(rest) {
		return nil, api.ErrEnd
	}
	r.at += 8 * n
	return bytes.Clone(rest[:n]), api.OK
}

// Left answers how many bits are left.
func (r *Reader) Left() int {
	if r == nil {
		return 0
	}
	return 8*len(r.data) - r.at
}

// Writer puts bits into bytes.
type Writer struct {
	data []byte // a byte that was begun stands here already, filled with 0
	size int    // how many bits were written
}

// NewWriter makes a writer that has written nothing.
func NewWriter() *Writer { return &Writer{} }

// Put writes the lowest n bits of v, the lowest first.
func (w *Writer) Put(v uint32, n int) api.Errno {
	if w == nil {
		return api.ErrNil
	}
	if n < 0 || n > most {
		return api.ErrArg
	}
	for i := range n {
		w.putBit(v >> i & 1)
	}
	return api.OK
}

func (w *Writer) putBit(bit uint32) {
	place := w.size % 8
	if place == 0 {
		w.data = append(w.data, 0)
	}
	w.data[len(w.data)-1] |= byte(bit << place)
	w.size++
}

// Align fills a byte that was begun with bits 0.
func (w *Writer) Align() {
	if w != nil {
		w.size = 8 * len(w.data)
	}
}

// Bytes aligns, then writes b.
func (w *Writer) Bytes(b []byte) {
	if w == nil {
		return
	}
	w.data = append(w.data, b...) // behind a byte that was begun, since it stands whole in data
	w.Align()
}

// Len answers how many bits were written, those that an aligning filled in too.
func (w *Writer) Len() int {
	if w == nil {
		return 0
	}
	return w.size
}

// Done answers all bytes so far. The writer stays as it was: what is put later goes on behind the last bit that was written.
func (w *Writer) Done() []byte {
	if w == nil {
		return nil
	}
	return bytes.Clone(w.data)
}

// Reverse answers the lowest n bits of v the other way round.
func Reverse(v uint32, n int) uint32 {
	var back uint32
	for i := range min(n, most) {
		back = back<<1 | v>>i&1
	}
	return back
}

// Crc answers the CRC-32 of ZIP.
func Crc(b []byte) uint32 {
	sum := ^uint32(0)
	for _, bit := range stretch(b, 0, 8*len(b)) {
		sum = sum>>1 ^ polynomial*((sum^bit)&1)
	}
	return ^sum
}
