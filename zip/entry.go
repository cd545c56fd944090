package zip

import (
	"bytes"
	"iter"

	"quire/api"
	"quire/bits"
	"quire/deflate"
	"quire/inflate"
)

// What the records of an archive begin with.
const (
	localSign = 0x04034b50
	entrySign = 0x02014b50
	endSign   = 0x06054b50
)

// How many bytes the records have, an entry without its name.
const (
	entrySize = 46
	endSize   = 22
)

// What all records say: the version that is needed, and the day that the files have, the first one that can be told.
const (
	version = 20
	date    = 33
)

// numbers writes numbers of whole bytes, the lowest byte first.
type numbers struct{ *bits.Writer }

func newNumbers() numbers { return numbers{bits.NewWriter()} }

// twos writes numbers of 2 bytes.
func (w numbers) twos(l ...int) { w.put(2, l...) }

// fours writes numbers of 4 bytes.
func (w numbers) fours(l ...int) { w.put(4, l...) }

func (w numbers) put(size int, l ...int) {
	for _, v := range l {
		w.Put(uint32(v), 8*size)
	}
}

// number reads a number of so many bytes at a place of b. They must be there.
func number(b []byte, at, size int) int {
	v := 0
	for i := range size {
		v |= int(b[at+i]) << (8 * i)
	}
	return v
}

// entry is what the directory says of a file.
type entry struct {
	name   string
	method int
	crc    int
	stands int // how many bytes stand in the archive
	size   int // how many bytes the file has
	at     int // where the local header begins
}

// local answers the local header.
func (f entry) local() []byte {
	w := newNumbers()
	w.fours(localSign)
	w.twos(version, 0, f.method, 0, date)
	w.fours(f.crc, f.stands, f.size)
	w.twos(len(f.name), 0)
	w.Bytes([]byte(f.name))
	return w.Done()
}

// listed answers the entry as the directory has it.
func (f entry) listed() []byte {
	w := newNumbers()
	w.fours(entrySign)
	w.twos(version, version, 0, f.method, 0, date)
	w.fours(f.crc, f.stands, f.size)
	w.twos(len(f.name), 0, 0, 0, 0)
	w.fours(0, f.at)
	w.Bytes([]byte(f.name))
	return w.Done()
}

// endOf answers the end of an archive of so many files, whose directory has so many bytes and begins there.
func endOf(files, size, at int) []byte {
	w := newNumbers()
	w.fours(endSign)
	w.twos(0, 0, files, files)
	w.fours(size, at)
	w.twos(0)
	return w.Done()
}

// packed hands out the entry of each file, with the bytes that stand for it.
func packed(l []api.File, method int) iter.Seq2[entry, []byte] {
	return func(yield func(entry, []byte) bool) {
		at := 0
		for _, f := range l {
			stream := pack(f.Data, method)
			file := entry{f.Name, method, int(bits.Crc(f.Data)), len(stream), len(f.Data), at}
			if !yield(file, stream) {
				return
			}
			at += len(file.local()) + len(stream)
		}
	}
}

// pack answers the bytes that stand for a file's. A file of an archive is never too big for Deflate.
func pack(data []byte, method int) []byte {
	if method == Store {
		return data
	}
	stream, _ := deflate.Deflate(data, deflate.Best)
	return stream
}

// entries hands out the entries of a directory, up to its end or to the first one that is wrong: that comes with false.
func entries(directory []byte) iter.Seq2[entry, bool] {
	return func(yield func(entry, bool) bool) {
		for right := true; right && len(directory) > 0; {
			var f entry
			f, right = firstEntry(directory)
			if !yield(f, right) {
				return
			}
			if right {
				directory = directory[entrySize+len(f.name):]
			}
		}
	}
}

// firstEntry reads the entry that bytes begin with. What it says is written again and held against the bytes, so that nothing else stands there.
func firstEntry(b []byte) (entry, bool) {
	if len(b) < entrySize {
		return entry{}, false
	}
	end := entrySize + number(b, 28, 2)
	if len(b) < end {
		return entry{}, false
	}
	f := entry{string(b[entrySize:end]), number(b, 10, 2), number(b, 16, 4), number(b, 20, 4), number(b, 24, 4), number(b, 42, 4)}
	return f, bytes.HasPrefix(b, f.listed())
}

// unpack answers the file's bytes out of those that stand for it.
func (f entry) unpack(b []byte) ([]byte, api.Errno) {
	if f.method == Store {
		return f.stored(b)
	}
	data, took, e := inflate.Inflate(b, f.size)
	if e == api.ErrBig || e == api.OK && (took < len(b) || len(data) < f.size) {
		return nil, api.ErrData
	}
	return data, e
}

func (f entry) stored(b []byte) ([]byte, api.Errno) {
	if f.stands != f.size {
		return nil, api.ErrZip
	}
	return bytes.Clone(b), api.OK
}
