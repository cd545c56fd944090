package zip

import (
	"bytes"

	"quire/api"
	"quire/bits"
)

// archive is read from its first file on.
type archive struct {
	data    []byte
	entries []entry
	end     int // where the files' bytes end and the directory begins
	at      int // behind the files that were read
	left    int // how many bytes may still come out
}

// open reads the end and the directory, and tells whether they are right.
func (a *archive) open() bool {
	end := len(a.data) - endSize
	if end < 0 {
		return false
	}
	many, size, from := number(a.data, end+8, 2), number(a.data, end+12, 4), number(a.data, end+16, 4)
	if !bytes.Equal(a.data[end:], endOf(many, size, from)) || many > api.MaxParts || from+size != end {
		return false
	}
	a.end = from
	for f, right := range entries(a.data[from:end]) {
		if !right || len(a.entries) == many {
			return false
		}
		a.entries = append(a.entries, f)
	}
	return len(a.entries) == many
}

// files reads all files.
func (a *archive) files() ([]api.File, api.Errno) {
	var l []api.File
	twice := firstTwice(a.names())
	for i, f := range a.entries {
		if !Right(f.name) {
			return nil, api.ErrName
		}
		if i == twice {
			return nil, api.ErrTwice
		}
		data, e := a.next(f)
		if e != api.OK {
			return nil, e
		}
		l = append(l, api.File{Name: f.name, Data: data})
	}
	if a.at != a.end {
		return nil, api.ErrZip
	}
	return l, api.OK
}

func (a *archive) names() []string {
	var names []string
	for _, f := range a.entries {
		names = append(names, f.name)
	}
	return names
}

// next reads the file behind those that were read.
func (a *archive) next(f entry) ([]byte, api.Errno) {
	header := f.local()
	if !known(f.method) || f.at != a.at || !bytes.HasPrefix(a.data[a.at:], header) {
		return nil, api.ErrZip
	}
	if f.size > min(api.MaxPart, a.left) {
		return nil, api.ErrBig
	}
	from := a.at + len(header)
	to := from + f.stands
	if to > a.end {
		return nil, api.ErrZip
	}
	data, e := f.unpack(a.data[from:to])
	if e != api.OK {
		return nil, e
	}
	if int(bits.Crc(data)) != f.crc {
		return nil, api.ErrSum
	}
	a.at, a.left = to, a.left-f.size
	return data, api.OK
}
