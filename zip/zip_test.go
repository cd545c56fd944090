package zip_test

import (
	stdzip "archive/zip"
	"bytes"
	"encoding/binary"
	"encoding/hex"
	"fmt"
	"hash/crc32"
	"io"
	"math"
	"math/rand"
	"reflect"
	"slices"
	"strings"
	"testing"

	"quire/api"
	"quire/deflate"
	"quire/inflate"
	"quire/zip"
)

var methods = []int{zip.Store, zip.Deflated}

// localHeader, listing and ending are an archive's records, field by field, but for the names.
type localHeader struct {
	Sign                               uint32
	Version, Flags, Method, Time, Date uint16
	Crc, Stands, Size                  uint32
	NameLength, ExtraLength            uint16
}

type listing struct {
	Sign                                     uint32
	Made, Version, Flags, Method, Time, Date uint16
	Crc, Stands, Size                        uint32
	NameLength, ExtraLength, RemarkLength    uint16
	Disk, Inner                              uint16
	Outer, At                                uint32
}

type ending struct {
	Sign                   uint32
	Disk, First, Here, All uint16
	Size, At               uint32
	RemarkLength           uint16
}

// piece is a file of an archive that a test makes: its local header with the name behind it, its stream, its entry with the name behind it.
type piece struct {
	Local      localHeader
	LocalName  string
	Stream     string
	Listed     listing
	ListedName string
}

// made is an archive that a test makes, and turns as it likes.
type made struct {
	Pieces []*piece
	Gap    string // between the last file's bytes and the directory
	End    ending
}

func pieceOf(f api.File, method int, stream string) *piece {
	sum, stands, size, n := crc32.ChecksumIEEE(f.Data), uint32(len(stream)), uint32(len(f.Data)), uint16(len(f.Name))
	return &piece{
		Local:      localHeader{0x04034b50, 20, 0, uint16(method), 0, 33, sum, stands, size, n, 0},
		LocalName:  f.Name,
		Stream:     stream,
		Listed:     listing{0x02014b50, 20, 20, 0, uint16(method), 0, 33, sum, stands, size, n, 0, 0, 0, 0, 0, 0},
		ListedName: f.Name,
	}
}

func streamOf(data []byte, method int) string {
	if method == zip.Store {
		return string(data)
	}
	stream, e := deflate.Deflate(data, deflate.Best)
	if e != api.OK {
		panic(e)
	}
	return string(stream)
}

// makeOf makes a right archive; the files take the methods in turn.
func makeOf(l []api.File, methods ...int) *made {
	m := &made{}
	for i, f := range l {
		method := methods[i%len(methods)]
		m.Pieces = append(m.Pieces, pieceOf(f, method, streamOf(f.Data, method)))
	}
	return m.lay()
}

// lay makes the numbers of places, and those of the end, right again.
func (m *made) lay() *made {
	at := 0
	size := 0
	for _, p := range m.Pieces {
		p.Listed.At = uint32(at)
		at += 30 + len(p.LocalName) + len(p.Stream)
		size += 46 + len(p.ListedName)
	}
	n := uint16(len(m.Pieces))
	m.End = ending{0x06054b50, 0, 0, n, n, uint32(size), uint32(at + len(m.Gap)), 0}
	return m
}

func appendAs(b []byte, record any) []byte {
	b, err := binary.Append(b, binary.LittleEndian, record)
	if err != nil {
		panic(err)
	}
	return b
}

func (m *made) bytes() []byte {
	var b []byte
	for _, p := range m.Pieces {
		b = append(appendAs(b, p.Local), p.LocalName+p.Stream...)
	}
	b = append(b, m.Gap...)
	for _, p := range m.Pieces {
		b = append(appendAs(b, p.Listed), p.ListedName...)
	}
	return appendAs(b, m.End)
}

// both sets the numbers of bytes, the Crc and the method alike in the local header and in the entry.
func (p *piece) both(set func(method *uint16, crc, stands, size *uint32)) {
	set(&p.Local.Method, &p.Local.Crc, &p.Local.Stands, &p.Local.Size)
	set(&p.Listed.Method, &p.Listed.Crc, &p.Listed.Stands, &p.Listed.Size)
}

func (p *piece) method(v uint16) { p.both(func(method *uint16, _, _, _ *uint32) { *method = v }) }
func (p *piece) crc(v uint32)    { p.both(func(_ *uint16, crc, _, _ *uint32) { *crc = v }) }
func (p *piece) stands(v uint32) { p.both(func(_ *uint16, _, stands, _ *uint32) { *stands = v }) }
func (p *piece) size(v uint32)   { p.both(func(_ *uint16, _, _, size *uint32) { *size = v }) }

// name gives the file another name, in both places.
func (p *piece) name(name string) {
	p.LocalName, p.ListedName = name, name
	p.Local.NameLength, p.Listed.NameLength = uint16(len(name)), uint16(len(name))
}

// stream gives the file other bytes in the archive.
func (p *piece) stream(stream string) {
	p.Stream = stream
	p.stands(uint32(len(stream)))
}

func file(name, data string) api.File { return api.File{Name: name, Data: []byte(data)} }

func same(a, b []api.File) bool {
	return slices.EqualFunc(a, b, func(x, y api.File) bool { return x.Name == y.Name && bytes.Equal(x.Data, y.Data) })
}

func namesOf(l []api.File) []string {
	var names []string
	for _, f := range l {
		names = append(names, f.Name)
	}
	return names
}

// read asks Read, that it left b alone, and that with an error nothing comes.
func read(t *testing.T, b []byte, most int) ([]api.File, api.Errno) {
	t.Helper()
	whole := append(bytes.Clone(b), "spare"...)
	given := whole[:len(b)]
	l, e := zip.Read(given, most)
	if !bytes.Equal(given, b) || string(whole[len(b):]) != "spare" {
		t.Errorf("Read has changed what it was given")
	}
	if e != api.OK && len(l) > 0 {
		t.Errorf("Read: %d files beside error %d", len(l), e)
	}
	return l, e
}

// wantFiles asks Read with just as much as the files have, and Names.
func wantFiles(t *testing.T, what string, b []byte, want []api.File) {
	t.Helper()
	total := 0
	for _, f := range want {
		total += len(f.Data)
	}
	l, e := read(t, b, total)
	if e != api.OK || !same(l, want) {
		t.Errorf("%s: Read: %d files %q, error %d, not %d %q", what, len(l), namesOf(l), e, len(want), namesOf(want))
	}
	names, e := zip.Names(b)
	if e != api.OK || !slices.Equal(names, namesOf(want)) {
		t.Errorf("%s: Names: %q, error %d, not %q", what, names, e, namesOf(want))
	}
}

// wantError asks that Read and Names have this error.
func wantError(t *testing.T, what string, b []byte, want api.Errno) {
	t.Helper()
	if _, e := read(t, b, 1<<30); e != want {
		t.Errorf("%s: Read: error %d, not %d", what, e, want)
	}
	names, e := zip.Names(b)
	if e != want || len(names) > 0 && e != api.OK {
		t.Errorf("%s: Names: %q, error %d, not %d", what, names, e, want)
	}
}

func write(t *testing.T, l []api.File, method int) []byte {
	t.Helper()
	b, e := zip.Write(l, method)
	if e != api.OK {
		t.Fatalf("Write of %d files %.60q, method %d: error %d", len(l), namesOf(l), method, e)
	}
	return b
}

func wantNoWrite(t *testing.T, what string, l []api.File, method int, want api.Errno) {
	t.Helper()
	if b, e := zip.Write(l, method); e != want || len(b) > 0 {
		t.Errorf("Write of %s: %d bytes, error %d, not %d", what, len(b), e, want)
	}
}

// many answers so many files without bytes, of different names.
func many(n int) []api.File {
	var l []api.File
	for i := range n {
		l = append(l, file(fmt.Sprintf("f%d", i), ""))
	}
	return l
}

func noise(seed int64, size int) string {
	b := make([]byte, size)
	rand.New(rand.NewSource(seed)).Read(b)
	return string(b)
}

func someFiles() []api.File {
	return []api.File{
		file("[Content_Types].xml", "<Types/>"),
		file("_rels/.rels", strings.Repeat("<Relationship/>", 40)),
		file("xl/empty", ""),
		file("xl/worksheets/sheet1.xml", strings.Repeat("<c r=\"A1\"><v>12</v></c>", 3000)),
		file("noise", noise(501, 70000)),
		file("...", "PK\x05\x06 PK\x01\x02 PK\x03\x04"),
		file(strings.Repeat("n", 255), "\x00"),
	}
}

// rightNames and wrongNames are names at the edges of what is right.
func rightNames() []string {
	return []string{"a", " ", "~", "!", "}", ".a", "a.", "...", "....", "a/b", "a/.../b", "a/b/c/d", ".a/b.", " / ", "..a", "a..", "a/..b",
		"..a/b", "a/b..", ". ", ".. ", "a/. /b", "[", "]", ";", "9", strings.Repeat("n", 255), strings.Repeat("a/", 127) + "a", ".../a", "a/..."}
}

func wrongNames() []string {
	return []string{"", strings.Repeat("n", 256), strings.Repeat("n", 300), strings.Repeat("a/", 127) + "ab", strings.Repeat("n", 65535),
		"/", "/a", "a/", "//", "a//b", "a/b/", "/a/b", ".", "..", "./a", "../a", "a/.", "a/..", "a/./b", "a/../b", "a/b//c",
		"\\", "a\\b", ":", "c:", "c:/a", "a:b", "\x1f", "a\x1f", "\x7f", "a\x7fb", "\x00", "a\x00", "a\n", "\t", "\x80", "\xff", "é", "a/é", "\u212a"}
}

// P501, P502: which names are right.
func TestRight(t *testing.T) {
	for _, name := range rightNames() {
		if !zip.Right(name) {
			t.Errorf("Right(%.40q): false", name)
		}
	}
	for _, name := range wrongNames() {
		if zip.Right(name) {
			t.Errorf("Right(%.40q): true", name)
		}
	}
}

// P501: every byte by itself, at the beginning, within, at the end.
func TestRightBytes(t *testing.T) {
	for c := range 256 {
		want := c >= 0x20 && c <= 0x7e && c != '\\' && c != ':'
		for _, form := range []string{"%sab", "a%sb", "ab%s"} {
			name := fmt.Sprintf(form, string([]byte{byte(c)}))
			right := want && (c != '/' || form == "a%sb")
			if zip.Right(name) != right {
				t.Errorf("Right(%q): %v", name, !right)
			}
		}
	}
}

// The chapter's examples.
func TestExamples(t *testing.T) {
	for _, method := range methods {
		b := write(t, nil, method)
		if want := "504b0506" + strings.Repeat("00", 18); hex.EncodeToString(b) != want {
			t.Errorf("Write of nothing: %x", b)
		}
		wantFiles(t, "nothing", b, nil)
	}
	b := write(t, []api.File{file("a", "x")}, zip.Store)
	if len(b) != 31+1+47+22 {
		t.Errorf("Write of a with x: %d bytes", len(b))
	}
	b[31] ^= 1
	wantError(t, "x turned", b, api.ErrSum)
}

// P501: an archive of stored files, written out.
func TestStoredByteByByte(t *testing.T) {
	b := write(t, []api.File{file("a", "x"), file("d/E", ""), file("b", "123456789")}, zip.Store)
	want := strings.Join([]string{
		"504b0304 1400 0000 0000 0000 2100 8316dc8c 01000000 01000000 0100 0000 61 78",
		"504b0304 1400 0000 0000 0000 2100 00000000 00000000 00000000 0300 0000 642f45",
		"504b0304 1400 0000 0000 0000 2100 2639f4cb 09000000 09000000 0100 0000 62 313233343536373839",
		"504b0102 1400 1400 0000 0000 0000 2100 8316dc8c 01000000 01000000 0100 0000 0000 0000 0000 00000000 00000000 61",
		"504b0102 1400 1400 0000 0000 0000 2100 00000000 00000000 00000000 0300 0000 0000 0000 0000 00000000 20000000 642f45",
		"504b0102 1400 1400 0000 0000 0000 2100 2639f4cb 09000000 09000000 0100 0000 0000 0000 0000 00000000 41000000 62",
		"504b0506 0000 0000 0300 0300 8f000000 69000000 0000",
	}, "")
	if hex.EncodeToString(b) != strings.ReplaceAll(want, " ", "") {
		t.Errorf("Write:\n%x, not\n%s", b, strings.ReplaceAll(want, " ", ""))
	}
}

// P501: archives of stored files of all sizes and names, byte by byte as another maker makes them.
func TestStoredAsMade(t *testing.T) {
	for _, l := range [][]api.File{someFiles(), many(api.MaxParts), {file("big", noise(502, api.MaxPart))}, {file(strings.Repeat("x", 255), "")}} {
		if !bytes.Equal(write(t, l, zip.Store), makeOf(l, zip.Store).bytes()) {
			t.Errorf("Write of %d files, %.40q ..: not as made", len(l), l[0].Name)
		}
	}
}

// P501: of Deflated the streams are free, but each is all of the file, and nothing stands between.
func TestDeflatedRecords(t *testing.T) {
	l := someFiles()
	b := write(t, l, zip.Deflated)
	m := &made{}
	rest := b
	for _, f := range l {
		var h localHeader
		if _, err := binary.Decode(rest, binary.LittleEndian, &h); err != nil {
			t.Fatal(err)
		}
		from := 30 + len(f.Name)
		stream := rest[from : from+int(h.Stands)]
		data, took, e := inflate.Inflate(stream, len(f.Data))
		if e != api.OK || took != len(stream) || !bytes.Equal(data, f.Data) {
			t.Errorf("%.40q: its stream of %d bytes has error %d, %d taken, %d told", f.Name, len(stream), e, took, len(data))
		}
		m.Pieces = append(m.Pieces, pieceOf(f, zip.Deflated, string(stream)))
		rest = rest[from+int(h.Stands):]
	}
	if !bytes.Equal(b, m.lay().bytes()) {
		t.Errorf("Write of deflated files: not as made")
	}
	if len(b) > 80000 {
		t.Errorf("Write of deflated files: %d bytes, nothing is shorter than it was", len(b))
	}
}

// P501: other readers of archives read them.
func TestOtherReader(t *testing.T) {
	for _, method := range methods {
		l := someFiles()
		b := write(t, l, method)
		r, err := stdzip.NewReader(bytes.NewReader(b), int64(len(b)))
		if err != nil || len(r.File) != len(l) {
			t.Fatalf("method %d: another reader: %v", method, err)
		}
		for i, f := range r.File {
			in, err := f.Open()
			if err != nil {
				t.Fatal(err)
			}
			data, err := io.ReadAll(in)
			if err != nil || f.Name != l[i].Name || int(f.Method) != method || !bytes.Equal(data, l[i].Data) {
				t.Errorf("method %d: another reader: %.40q, %v", method, f.Name, err)
			}
		}
	}
}

// P501: each error by itself, at its edge.
func TestWriteErrors(t *testing.T) {
	for _, method := range []int{-1, 1, 7, 9, 10, 255, 256, 264, 65536, 65544, 1<<32 + 8, math.MaxInt, math.MinInt} {
		wantNoWrite(t, fmt.Sprint("method ", method), nil, method, api.ErrArg)
	}
	for _, method := range methods {
		write(t, many(api.MaxParts), method)
		wantNoWrite(t, "a file too many", many(api.MaxParts+1), method, api.ErrBig)
		write(t, []api.File{file("a", strings.Repeat("x", api.MaxPart))}, method)
		tooBig := strings.Repeat("x", api.MaxPart+1)
		wantNoWrite(t, "a byte too many", []api.File{file("a", tooBig)}, method, api.ErrBig)
		wantNoWrite(t, "a byte too many in the last", []api.File{file("a", ""), file("b", ""), file("c", tooBig)}, method, api.ErrBig)
		for _, name := range rightNames() {
			write(t, []api.File{file("first", ""), file(name, "x")}, method)
		}
		for _, name := range wrongNames() {
			wantNoWrite(t, "a wrong name", []api.File{file(name, "x")}, method, api.ErrName)
			wantNoWrite(t, "a wrong name behind a right one", []api.File{file("first", ""), file(name, "x")}, method, api.ErrName)
		}
	}
}

// like and unlike are pairs of names.
func like() [][2]string {
	return [][2]string{{"a", "a"}, {"a", "A"}, {"Z", "z"}, {"xl/Book.xml", "XL/bOOK.XML"}, {"a1", "A1"}, {"...", "..."},
		{strings.Repeat("n", 255), strings.Repeat("N", 255)}}
}

func unlike() [][2]string {
	return [][2]string{{"a", "b"}, {"a", "aa"}, {"[", "{"}, {"@", "`"}, {"]", "}"}, {"^", "~"}, {"_", "\x7e"}, {"a/b", "ab"}, {"a ", "a"}, {"0", "P"}, {"1", "q"},
		{strings.Repeat("n", 254) + "m", strings.Repeat("n", 255)}, {"!", "A"}}
}

// P501, P502: names that are the same but for the case of letters.
func TestTwice(t *testing.T) {
	for _, pair := range like() {
		for _, l := range [][]api.File{
			{file(pair[0], "x"), file(pair[1], "y")},
			{file("other", ""), file(pair[0], "x"), file("another", ""), file(pair[1], "y")},
			{file(pair[0], "x"), file("other", ""), file("another", ""), file(pair[1], "y"), file("last", "")},
		} {
			for _, method := range methods {
				wantNoWrite(t, fmt.Sprintf("%.40q", namesOf(l)), l, method, api.ErrTwice)
				wantError(t, fmt.Sprintf("%.40q", namesOf(l)), makeOf(l, method).bytes(), api.ErrTwice)
			}
		}
	}
	for _, pair := range unlike() {
		l := []api.File{file(pair[0], "x"), file(pair[1], "y")}
		for _, method := range methods {
			wantFiles(t, fmt.Sprintf("%.40q", pair), write(t, l, method), l)
		}
	}
}

// P501: which error comes first.
func TestWriteOrder(t *testing.T) {
	big := file("big", strings.Repeat("x", api.MaxPart+1))
	twice := []api.File{file("a", ""), file("A", "")}
	wrong := file("/", "")
	wantNoWrite(t, "all wrong", append(append(many(api.MaxParts), big, wrong), twice...), 1, api.ErrArg)
	wantNoWrite(t, "a big one last", []api.File{wrong, twice[0], twice[1], big}, zip.Store, api.ErrBig)
	wantNoWrite(t, "a wrong name first of too many", append([]api.File{wrong}, many(api.MaxParts)...), zip.Store, api.ErrBig)
	wantNoWrite(t, "too many that are like", append(twice, many(api.MaxParts)...), zip.Deflated, api.ErrBig)
	wantNoWrite(t, "a wrong name last", append(slices.Clone(twice), wrong), zip.Store, api.ErrName)
	wantNoWrite(t, "a wrong name that is twice", []api.File{wrong, wrong}, zip.Deflated, api.ErrName)
	wantNoWrite(t, "a wrong name like a right one", []api.File{file("k", ""), file("\u212a", "")}, zip.Deflated, api.ErrName)
}

// P502, P504: with both methods, with both in one archive, of one file, of none, of as many as may be.
func TestReadMade(t *testing.T) {
	for _, l := range [][]api.File{nil, {file("a", "")}, {file("a", "x")}, someFiles(), many(api.MaxParts)} {
		wantFiles(t, "stored", makeOf(l, zip.Store).bytes(), l)
		wantFiles(t, "deflated", makeOf(l, zip.Deflated).bytes(), l)
		wantFiles(t, "in turn", makeOf(l, zip.Store, zip.Deflated).bytes(), l)
		wantFiles(t, "in turn", makeOf(l, zip.Deflated, zip.Store).bytes(), l)
	}
}

// P502: streams of every level of deflate, and of several blocks.
func TestReadStreams(t *testing.T) {
	text := strings.Repeat("Hello, hello! ", 20000)[:api.MaxPart]
	for _, level := range []int{deflate.Stored, deflate.Fixed, deflate.Best} {
		stream, _ := deflate.Deflate([]byte(text), level)
		f := file("a", text)
		m := &made{Pieces: []*piece{pieceOf(f, zip.Deflated, string(stream))}}
		wantFiles(t, fmt.Sprint("level ", level), m.lay().bytes(), []api.File{f})
	}
}

// P502: names at the edges.
func TestReadNames(t *testing.T) {
	for _, method := range methods {
		for _, name := range rightNames() {
			l := []api.File{file("first", "1"), file(name, "2")}
			wantFiles(t, fmt.Sprintf("%.40q", name), makeOf(l, method).bytes(), l)
		}
		for _, name := range wrongNames() {
			wantError(t, fmt.Sprintf("%.40q", name), makeOf([]api.File{file(name, "2")}, method).bytes(), api.ErrName)
			wantError(t, fmt.Sprintf("%.40q", name), makeOf([]api.File{file("first", "1"), file(name, "2")}, method).bytes(), api.ErrName)
		}
	}
}

// P502: most at its edges; ErrArg is ahead of all else.
func TestMost(t *testing.T) {
	l := []api.File{file("a", "12345"), file("b", ""), file("c", "1234567")}
	for _, method := range methods {
		b := write(t, l, method)
		for _, c := range []struct {
			most int
			want api.Errno
		}{{-1, api.ErrArg}, {math.MinInt, api.ErrArg}, {0, api.ErrBig}, {4, api.ErrBig}, {5, api.ErrBig}, {11, api.ErrBig}, {12, api.OK}, {13, api.OK}, {math.MaxInt, api.OK}} {
			got, e := read(t, b, c.most)
			if e != c.want || e == api.OK && !same(got, l) {
				t.Errorf("Read, most %d: error %d, not %d", c.most, e, c.want)
			}
		}
	}
	if l, e := read(t, write(t, many(3), zip.Deflated), 0); e != api.OK || len(l) != 3 {
		t.Errorf("Read of files without bytes, most 0: %d", e)
	}
	if l, e := read(t, write(t, nil, zip.Store), 0); e != api.OK || len(l) != 0 {
		t.Errorf("Read of no files, most 0: %d", e)
	}
	for _, b := range [][]byte{nil, make([]byte, 22), make([]byte, api.MaxFile+1)} {
		if _, e := read(t, b, -1); e != api.ErrArg {
			t.Errorf("Read of %d bytes, most -1: %d", len(b), e)
		}
	}
}

// fullArchive answers an archive of stored files that has just so many bytes.
func fullArchive(size int) ([]byte, []api.File) {
	var l []api.File
	left := size - 22 - 5*78
	for i := range 5 {
		n := left / (5 - i)
		l = append(l, file(fmt.Sprint(i), noise(int64(510+i), n)))
		left -= n
	}
	return makeOf(l, zip.Store).bytes(), l
}

// P502: more than api.MaxFile bytes.
func TestMaxFile(t *testing.T) {
	b, l := fullArchive(api.MaxFile)
	if len(b) != api.MaxFile {
		t.Fatalf("made %d bytes", len(b))
	}
	wantFiles(t, "MaxFile bytes", b, l)
	b, _ = fullArchive(api.MaxFile + 1)
	wantError(t, "a byte more", b, api.ErrBig)
	wantError(t, "no archive", make([]byte, api.MaxFile), api.ErrZip)
	wantError(t, "no archive, a byte more", make([]byte, api.MaxFile+1), api.ErrBig)
}

// P502: too short for an end.
func TestShort(t *testing.T) {
	end := makeOf(nil, zip.Store).bytes()
	wantFiles(t, "22 bytes", end, nil)
	for n := range 22 {
		wantError(t, fmt.Sprint("the end's first ", n), end[:n], api.ErrZip)
		wantError(t, fmt.Sprint("the end's last ", n), end[22-n:], api.ErrZip)
		wantError(t, fmt.Sprint(n, " bytes 0"), make([]byte, n), api.ErrZip)
	}
	wantError(t, "22 bytes 0", make([]byte, 22), api.ErrZip)
	whole := makeOf(someFiles(), zip.Store).bytes()
	for n := len(whole) - 400; n < len(whole); n++ {
		wantError(t, fmt.Sprint(n, " bytes of all"), whole[:n], api.ErrZip)
		wantError(t, "the last bytes of all", whole[len(whole)-n:], api.ErrZip)
	}
	wantError(t, "a byte behind", append(bytes.Clone(whole), 0), api.ErrZip)
	wantError(t, "a byte ahead", append([]byte{0}, whole...), api.ErrZip)
}

// turns calls try for each number within a record, with the record's number turned in one bit after the other, or to some other numbers; then it is as it was.
func turns(record any, try func(field string)) {
	v := reflect.ValueOf(record).Elem()
	for i := range v.NumField() {
		f := v.Field(i)
		was := f.Uint()
		for bit := range f.Type().Bits() {
			f.SetUint(was ^ 1<<bit)
			try(fmt.Sprintf("%s.%s %#x, not %#x", v.Type().Name(), v.Type().Field(i).Name, f.Uint(), was))
		}
		f.SetUint(was)
	}
}

// P502: each field of the end by itself.
func TestEndTurned(t *testing.T) {
	for _, l := range [][]api.File{nil, {file("a", "x")}, someFiles()[:3]} {
		m := makeOf(l, zip.Store, zip.Deflated)
		turns(&m.End, func(what string) { wantError(t, what, m.bytes(), api.ErrZip) })
		for _, n := range []int{-1, 1} {
			m.lay()
			m.End.Here += uint16(n)
			m.End.All += uint16(n)
			wantError(t, fmt.Sprint("both numbers of files, and ", n), m.bytes(), api.ErrZip)
		}
	}
}

// P502: each field of an entry by itself; the first file's, and a later one's.
func TestListingTurned(t *testing.T) {
	for _, i := range []int{0, 2} {
		m := makeOf(someFiles()[:4], zip.Deflated, zip.Store)
		turns(&m.Pieces[i].Listed, func(what string) { wantError(t, fmt.Sprint(i, ": ", what), m.bytes(), api.ErrZip) })
		wantFiles(t, "turned back", m.bytes(), someFiles()[:4])
	}
}

// P502: each field of a local header by itself; the first file's, and a later one's.
func TestLocalTurned(t *testing.T) {
	for _, i := range []int{0, 2} {
		m := makeOf(someFiles()[:4], zip.Deflated, zip.Store)
		turns(&m.Pieces[i].Local, func(what string) { wantError(t, fmt.Sprint(i, ": ", what), m.bytes(), api.ErrZip) })
	}
}

// P502: a name that differs between the local header and the entry, in its bytes or in its case.
func TestNameDiffers(t *testing.T) {
	for _, name := range []string{"b", "A", " ", "/", "", "aa"} {
		m := makeOf([]api.File{file("a", "x")}, zip.Store)
		m.Pieces[0].LocalName = name
		m.Pieces[0].Local.NameLength = uint16(len(name))
		wantError(t, fmt.Sprintf("local %q", name), m.lay().bytes(), api.ErrZip)
	}
	for _, name := range []string{"b", "A", " ", "aa"} {
		m := makeOf([]api.File{file("a", "x")}, zip.Store)
		m.Pieces[0].ListedName = name
		m.Pieces[0].Listed.NameLength = uint16(len(name))
		wantError(t, fmt.Sprintf("listed %q", name), m.lay().bytes(), api.ErrZip)
	}
}

// P502: what stands in fields that must be 0 may not come with bytes of its own either.
func TestExtras(t *testing.T) {
	m := makeOf([]api.File{file("a", "x")}, zip.Store)
	m.Pieces[0].Local.ExtraLength = 2
	m.Pieces[0].Stream = "\x00\x00x"
	wantError(t, "an extra field in the local header", m.lay().bytes(), api.ErrZip)
	for _, set := range []func(l *listing){
		func(l *listing) { l.ExtraLength = 2 },
		func(l *listing) { l.RemarkLength = 2 },
	} {
		m = makeOf([]api.File{file("a", "x")}, zip.Store)
		set(&m.Pieces[0].Listed)
		m.Pieces[0].ListedName += "\x00\x00"
		wantError(t, "an extra field or a remark in the entry", m.lay().bytes(), api.ErrZip)
	}
	m = makeOf([]api.File{file("a", "x")}, zip.Store)
	m.End.RemarkLength = 2
	wantError(t, "a remark at the end", append(m.bytes(), 0, 0), api.ErrZip)
}

// P502: as many files as may be, and one more.
func TestMaxParts(t *testing.T) {
	wantFiles(t, "MaxParts", makeOf(many(api.MaxParts), zip.Store).bytes(), many(api.MaxParts))
	wantError(t, "one more", makeOf(many(api.MaxParts+1), zip.Store).bytes(), api.ErrZip)
	wantError(t, "one more, of a wrong name", makeOf(append([]api.File{file("/", "")}, many(api.MaxParts)...), zip.Store).bytes(), api.ErrZip)
	wantError(t, "many more", makeOf(many(300), zip.Deflated).bytes(), api.ErrZip)
}

// P502: the directory does not begin where it says, or does not end where the end begins.
func TestDirectoryMislaid(t *testing.T) {
	for _, l := range [][]api.File{{file("a", "x")}, someFiles()[:3]} {
		for _, c := range []struct{ at, size int }{{1, 0}, {-1, 0}, {0, 1}, {0, -1}, {1, -1}, {-1, 1}, {1, 1}, {46, -46}, {47, -47}, {-32, 32}, {1 << 31, -1 << 31}} {
			m := makeOf(l, zip.Store)
			m.End.At += uint32(c.at)
			m.End.Size += uint32(c.size)
			wantError(t, fmt.Sprintf("the directory's place and %d, its size and %d", c.at, c.size), m.bytes(), api.ErrZip)
		}
		m := makeOf(l, zip.Store)
		m.End.At, m.End.Size = uint32(len(m.bytes())-22), 0
		wantError(t, "no directory", m.bytes(), api.ErrZip)
		m.End.Here, m.End.All = 0, 0
		wantError(t, "no directory, no files, but bytes", m.bytes(), api.ErrZip)
		m = makeOf(l, zip.Store)
		last := m.Pieces[len(l)-1]
		last.ListedName += "\x00"
		wantError(t, "a byte between the directory and the end", m.bytes(), api.ErrZip)
		m.lay()
		wantError(t, "a byte more in the directory", m.bytes(), api.ErrZip)
	}
}

// splitFile answers the parts of an archive of one file ahead of its end: its local header and bytes, its entry.
func splitFile(f api.File, method int) (head, listed []byte) {
	m := makeOf([]api.File{f}, method)
	b := m.bytes()
	return b[:m.End.At], b[m.End.At : len(b)-22]
}

// P502: an entry too few or too many, with the numbers of the end right but for that.
func TestEntriesTooFewOrMany(t *testing.T) {
	head, listed := splitFile(file("a", "x"), zip.Store)
	end := func(files, size int) []byte {
		return appendAs(nil, ending{0x06054b50, 0, 0, uint16(files), uint16(files), uint32(size), uint32(len(head)), 0})
	}
	n := len(listed)
	wantFiles(t, "as it is", slices.Concat(head, listed, end(1, n)), []api.File{file("a", "x")})
	wantError(t, "an entry too few", slices.Concat(head, listed, end(2, n)), api.ErrZip)
	wantError(t, "no entry", slices.Concat(head, end(1, 0)), api.ErrZip)
	wantError(t, "an entry too many", slices.Concat(head, listed, listed, end(1, 2*n)), api.ErrZip)
	wantError(t, "an entry, no file", slices.Concat(head, listed, end(0, n)), api.ErrZip)
	wantError(t, "an entry that is cut", slices.Concat(head, listed[:n-1], end(1, n-1)), api.ErrZip)
	wantError(t, "an entry that is cut ahead of its name", slices.Concat(head, listed[:n-2], end(1, n-2)), api.ErrZip)
	wantError(t, "a second entry that is cut", slices.Concat(head, listed, listed[:n-1], end(2, 2*n-1)), api.ErrZip)
	wantError(t, "a third entry that is cut", slices.Concat(head, listed, listed, listed[:45], end(2, 2*n+45)), api.ErrZip)
	for cut := range 46 {
		wantError(t, fmt.Sprint("an entry of ", cut, " bytes"), slices.Concat(head, listed[:cut], end(1, cut)), api.ErrZip)
	}
}

// P502: a wrong directory is told ahead of what is wrong with a file.
func TestDirectoryAheadOfFiles(t *testing.T) {
	m := makeOf([]api.File{file("/", "x"), file("a", "x"), file("a", "x")}, zip.Store)
	wantError(t, "the name alone", m.bytes(), api.ErrName)
	m.Pieces[2].Listed.Flags = 1
	wantError(t, "the last entry wrong too", m.bytes(), api.ErrZip)
	m.Pieces[2].Listed.Flags = 0
	m.End.Disk = 1
	wantError(t, "the end wrong too", m.bytes(), api.ErrZip)
	m.lay()
	m.End.Here, m.End.All = 2, 2
	wantError(t, "an entry too many", m.bytes(), api.ErrZip)
}

// P502: a local header begins just behind what was ahead.
func TestLocalMislaid(t *testing.T) {
	l := []api.File{file("a", "xyz"), file("b", "x"), file("c", "xy")}
	for i := range l {
		for _, by := range []int{-1, 1, 30, 1 << 16, -1 << 31} {
			m := makeOf(l, zip.Store)
			m.Pieces[i].Listed.At += uint32(by)
			wantError(t, fmt.Sprintf("file %d said %d farther", i, by), m.bytes(), api.ErrZip)
		}
		if i > 0 {
			m := makeOf(l, zip.Store)
			m.Pieces[i-1].Stream += "x"
			wantError(t, fmt.Sprintf("a byte ahead of file %d", i), m.lay().bytes(), api.ErrZip)
		}
	}
	m := makeOf(l, zip.Store)
	for _, p := range m.Pieces {
		p.Listed.At++
	}
	m.End.At++
	wantError(t, "a byte ahead of the first, all places right", append([]byte("!"), m.bytes()...), api.ErrZip)
	swapped := makeOf(l, zip.Store)
	swapped.Pieces[0].Listed, swapped.Pieces[1].Listed = swapped.Pieces[1].Listed, swapped.Pieces[0].Listed
	swapped.Pieces[0].ListedName, swapped.Pieces[1].ListedName = swapped.Pieces[1].ListedName, swapped.Pieces[0].ListedName
	wantError(t, "the directory in another order", swapped.bytes(), api.ErrZip)
	shared := makeOf([]api.File{file("a", "x"), file("b", "x")}, zip.Store)
	shared.Pieces[1].Listed.At = 0
	wantError(t, "two at one place", shared.bytes(), api.ErrZip)
}

// P502: methods that are none.
func TestReadMethods(t *testing.T) {
	for _, method := range []uint16{1, 2, 7, 9, 10, 12, 256, 264, 65535} {
		for i := range 2 {
			m := makeOf([]api.File{file("a", "x"), file("b", "x")}, zip.Store)
			m.Pieces[i].method(method)
			wantError(t, fmt.Sprint("method ", method), m.bytes(), api.ErrZip)
		}
	}
}

// P502: a file of api.MaxPart bytes, and of one more, by what its number says.
func TestMaxPart(t *testing.T) {
	for _, method := range methods {
		l := []api.File{file("a", strings.Repeat("x", api.MaxPart)), file("b", "")}
		wantFiles(t, "MaxPart", makeOf(l, method).bytes(), l)
		l = []api.File{file("a", strings.Repeat("x", api.MaxPart+1)), file("b", "")}
		wantError(t, "one more", makeOf(l, method).bytes(), api.ErrBig)
		for _, size := range []uint32{api.MaxPart + 1, 1 << 31, 1<<32 - 1} {
			m := makeOf([]api.File{file("z", "1"), file("a", "x")}, method)
			m.Pieces[1].size(size)
			wantError(t, fmt.Sprint("a file said to have ", size), m.bytes(), api.ErrBig)
		}
	}
}

// P502: a file's bytes end at the directory or ahead of it.
func TestBeyondDirectory(t *testing.T) {
	for _, method := range methods {
		m := makeOf([]api.File{file("z", "1"), file("a", "x")}, method)
		last := m.Pieces[1]
		stands := last.Local.Stands
		for _, more := range []uint32{1, 2, 47, 48, 49, 94, 95, 117, 118, 1000, 1<<31 - 1, 1 << 31, -stands - 1} {
			last.stands(stands + more)
			wantError(t, fmt.Sprintf("method %d: %d bytes too many", method, more), m.bytes(), api.ErrZip)
		}
		last.stands(stands)
		wantFiles(t, "as it was", m.bytes(), []api.File{file("z", "1"), file("a", "x")})
	}
	m := makeOf([]api.File{file("a", "x")}, zip.Store)
	m.Pieces[0].Stream = ""
	wantError(t, "a stored file whose byte is the directory's", m.lay().bytes(), api.ErrZip)
	m.Pieces[0].size(2)
	m.Pieces[0].stands(2)
	wantError(t, "two bytes of the directory", m.bytes(), api.ErrZip)
}

// P502: a local header whose name runs into the directory is as its entry says; so only its bytes are beyond.
func TestHeaderInDirectory(t *testing.T) {
	for _, n := range []int{1, 2} {
		m := makeOf([]api.File{file("namePK"[:4+n], "")}, zip.Store)
		m.Pieces[0].LocalName = "name"
		wantError(t, "a name that ends in the directory", m.lay().bytes(), api.ErrZip)
		m.Pieces[0].size(api.MaxPart + 1)
		wantError(t, "and is of a file too big", m.bytes(), api.ErrBig)
	}
}

// P502: of Store the two numbers are the same.
func TestStoreNumbers(t *testing.T) {
	for _, size := range []uint32{0, 1, 2, 4, 5, api.MaxPart} {
		m := makeOf([]api.File{file("z", "1"), file("a", "xyz")}, zip.Store)
		m.Pieces[1].size(size)
		wantError(t, fmt.Sprint("3 bytes of ", size), m.bytes(), api.ErrZip)
	}
	for _, stands := range []uint32{0, 1, 2} {
		m := makeOf([]api.File{file("a", "xyz")}, zip.Store)
		m.Pieces[0].stands(stands)
		wantError(t, fmt.Sprint(stands, " bytes of 3"), m.bytes(), api.ErrZip)
	}
	m := makeOf([]api.File{file("a", "xyz")}, zip.Store)
	m.Pieces[0].stands(2)
	m.Pieces[0].size(2)
	wantError(t, "2 bytes of 2, with the Crc of 3", m.bytes(), api.ErrSum)
	m.Pieces[0].crc(crc32.ChecksumIEEE([]byte("xy")))
	wantError(t, "a byte too many behind the file", m.bytes(), api.ErrZip)
}

// deflatedAs makes an archive of a file and behind it one of this stream, with the numbers and the Crc of this text.
func deflatedAs(stream, text string) *made {
	m := &made{Pieces: []*piece{pieceOf(file("z", "1"), zip.Store, "1"), pieceOf(file("a", text), zip.Deflated, stream)}}
	return m.lay()
}

// P502: each of inflate's errors, and what it leaves or tells too little or too much.
func TestDeflatedErrors(t *testing.T) {
	const a = "\x4b\x04\x00"                  // "a"
	const stored = "\x01\x01\x00\xfe\xff\x61" // "a", stored
	wantFiles(t, "a", deflatedAs(a, "a").bytes(), []api.File{file("z", "1"), file("a", "a")})
	wantFiles(t, "a, stored", deflatedAs(stored, "a").bytes(), []api.File{file("z", "1"), file("a", "a")})
	wantFiles(t, "no bytes", deflatedAs("\x03\x00", "").bytes(), []api.File{file("z", "1"), file("a", "")})
	for _, c := range []struct {
		what, stream, text string
		want               api.Errno
	}{
		{"no stream", "", "", api.ErrEnd},
		{"a stream that is cut", a[:2], "a", api.ErrEnd},
		{"a stored one that is cut", stored[:5], "a", api.ErrEnd},
		{"the kind 3", "\x07", "a", api.ErrData},
		{"numbers that do not fit", "\x01\x01\x00\xff\xff\x61", "a", api.ErrData},
		{"lengths that are not full", "\x05\x00\x00\x00\x00\x00\x00\x00", "a", api.ErrCode},
		{"a byte more than the number", stored, "", api.ErrData},
		{"a byte more than the number, of a fixed block", a, "", api.ErrData},
		{"a byte less than the number", a, "ab", api.ErrData},
		{"no byte of one", "\x03\x00", "a", api.ErrData},
		{"a byte behind the stream", a + "\x00", "a", api.ErrData},
		{"a stream behind the stream", a + a, "a", api.ErrData},
		{"a stream of 2 blocks as 1", "\x00\x01\x00\xfe\xff\x61" + stored, "a", api.ErrData},
		{"other bytes", a, "b", api.ErrSum},
		{"other bytes, and one behind", a + "\x00", "b", api.ErrData},
	} {
		wantError(t, c.what, deflatedAs(c.stream, c.text).bytes(), c.want)
	}
}

// P502: the Crc, of both methods, and of no bytes.
func TestSum(t *testing.T) {
	for _, method := range methods {
		for _, text := range []string{"", "x", "xyz"} {
			m := makeOf([]api.File{file("z", "1"), file("a", text)}, method)
			sum := crc32.ChecksumIEEE([]byte(text))
			for bit := range 32 {
				m.Pieces[1].crc(sum ^ 1<<bit)
				wantError(t, fmt.Sprintf("%q, bit %d of its Crc", text, bit), m.bytes(), api.ErrSum)
			}
		}
	}
}

// P502: something between the last file's bytes and the directory.
func TestGap(t *testing.T) {
	for _, l := range [][]api.File{nil, {file("a", "x")}, someFiles()[:3]} {
		for _, gap := range []string{"\x00", "PK", strings.Repeat("x", 100)} {
			m := makeOf(l, zip.Store, zip.Deflated)
			m.Gap = gap
			wantError(t, fmt.Sprintf("%d files, %q ahead of the directory", len(l), gap), m.lay().bytes(), api.ErrZip)
		}
	}
	m := makeOf([]api.File{file("a", "x"), file("b", "y")}, zip.Store)
	m.Gap = "x"
	m.Pieces[1].crc(1)
	wantError(t, "a wrong Crc is told ahead of the gap", m.lay().bytes(), api.ErrSum)
}

// fault makes something of a file wrong; each of a list is told ahead of those behind it.
type fault struct {
	what  string
	spoil func(p *piece)
	want  api.Errno
}

// faults answers what can be wrong with a file, in the order in which it is told.
func faults() []fault {
	return []fault{
		{"a wrong name", func(p *piece) { p.name("a/../b") }, api.ErrName},
		{"twice", func(p *piece) { p.name("FIRST") }, api.ErrTwice},
		{"a method that is none", func(p *piece) { p.method(12) }, api.ErrZip},
		{"a local header that says something else", func(p *piece) { p.Local.Time = 1 }, api.ErrZip},
		{"too big", func(p *piece) { p.size(api.MaxPart + 1) }, api.ErrBig},
		{"too many bytes together", func(p *piece) { p.size(1000) }, api.ErrBig},
		{"bytes beyond the directory", func(p *piece) { p.stands(90000) }, api.ErrZip},
		{"a stream that is cut", func(p *piece) { p.stands(p.Local.Stands - 1) }, api.ErrEnd},
		{"a byte more than the number", func(p *piece) { p.size(p.Local.Size - 1) }, api.ErrData},
		{"a wrong Crc", func(p *piece) { p.crc(p.Local.Crc + 1) }, api.ErrSum},
	}
}

// P502: of two things that are wrong with one file, the one that the chapter names first.
func TestOrderWithinFile(t *testing.T) {
	l := []api.File{file("first", "1"), file("second", strings.Repeat("text ", 60))}
	for i, a := range faults() {
		for _, b := range faults()[i:] {
			m := makeOf(l, zip.Deflated)
			b.spoil(m.Pieces[1])
			a.spoil(m.Pieces[1]) // last, since it is the one that is told
			if _, e := read(t, m.lay().bytes(), 500); e != a.want {
				t.Errorf("%s, and %s: %d, not %d", a.what, b.what, e, a.want)
			}
		}
	}
	m := makeOf(l, zip.Store)
	m.Pieces[1].stands(90000)
	wantError(t, "stored: beyond the directory, other numbers", m.bytes(), api.ErrZip)
	m = makeOf(l, zip.Store)
	m.Pieces[1].size(200)
	m.Pieces[1].crc(1)
	wantError(t, "stored: other numbers, a wrong Crc", m.bytes(), api.ErrZip)
	m.Pieces[1].size(api.MaxPart + 1)
	wantError(t, "stored: too big, other numbers", m.bytes(), api.ErrBig)
}

// P502: a file ahead is told with whatever is wrong with it, ahead of one behind.
func TestOrderOfFiles(t *testing.T) {
	l := []api.File{file("first", "1"), file("second", strings.Repeat("text ", 60)), file("third", strings.Repeat("words ", 50))}
	for _, a := range faults() {
		for _, b := range faults() {
			m := makeOf(l, zip.Deflated)
			a.spoil(m.Pieces[1])
			b.spoil(m.Pieces[2])
			if b.what == "twice" {
				m.Pieces[2].name("seconD")
			}
			m.lay()
			if _, e := read(t, m.bytes(), 700); e != a.want {
				t.Errorf("%s, and behind it %s: %d, not %d", a.what, b.what, e, a.want)
			}
		}
	}
}

// P502: the first name that is twice is told, ahead of a file behind it that is wrong and of others that are twice.
func TestFirstTwice(t *testing.T) {
	m := makeOf([]api.File{file("a", "1"), file("A", "2"), file("b", "3"), file("B", "4"), file("a", "5")}, zip.Store)
	m.Pieces[2].crc(1)
	wantError(t, "a, A, then b with a wrong Crc", m.bytes(), api.ErrTwice)
	m.Pieces[0].crc(1)
	wantError(t, "a wrong Crc ahead of all", m.bytes(), api.ErrSum)
	m = makeOf([]api.File{file("a", "1"), file("b", "2"), file("c", "3"), file("B", "4"), file("A", "5")}, zip.Store)
	m.Pieces[2].method(1)
	wantError(t, "a method that is none ahead of B", m.bytes(), api.ErrZip)
}

// P504: Read of Write is the files.
func TestBack(t *testing.T) {
	chance := rand.New(rand.NewSource(504))
	for range 300 {
		var l []api.File
		for i := range chance.Intn(8) {
			data := []byte(noise(chance.Int63(), chance.Intn(400)))
			if chance.Intn(2) == 0 {
				data = bytes.Repeat([]byte{byte(chance.Intn(256))}, chance.Intn(5000))
			}
			l = append(l, api.File{Name: fmt.Sprint(i, "/", strings.Repeat("x", chance.Intn(200)+1)), Data: data})
		}
		for _, method := range methods {
			wantFiles(t, "by chance", write(t, l, method), l)
		}
	}
	for _, method := range methods {
		wantFiles(t, "some files", write(t, someFiles(), method), someFiles())
		wantFiles(t, "many", write(t, many(api.MaxParts), method), many(api.MaxParts))
	}
}

// P501: an archive may have more bytes than Read takes.
func TestWriteBig(t *testing.T) {
	var l []api.File
	for i := range 5 {
		l = append(l, file(fmt.Sprint(i), noise(int64(i), api.MaxPart)))
	}
	b := write(t, l, zip.Store)
	if !bytes.Equal(b, makeOf(l, zip.Store).bytes()) {
		t.Errorf("Write of %d bytes: not as made", len(b))
	}
	wantError(t, "more than MaxFile", b, api.ErrBig)
}

// P504: an archive of stored files of which one byte is turned, to whatever.
func TestTurnedByte(t *testing.T) {
	l := []api.File{file("a", "xyz"), file("d/E", ""), file("b", "The text of a file.")}
	b := write(t, l, zip.Store)
	for i, was := range b {
		for c := range 256 {
			if b[i] = byte(c); b[i] == was {
				continue
			}
			if got, e := zip.Read(b, 1<<30); e == api.OK || len(got) > 0 {
				t.Fatalf("byte %d is %#x, not %#x: error %d", i, c, was, e)
			}
		}
		b[i] = was
	}
	wantFiles(t, "turned back", b, l)
}

// modelRead is the chapter's P502 once more, another way.
func modelRead(b []byte, most int) ([]api.File, api.Errno) {
	if most < 0 {
		return nil, api.ErrArg
	}
	if len(b) > api.MaxFile {
		return nil, api.ErrBig
	}
	if len(b) < 22 {
		return nil, api.ErrZip
	}
	var end ending
	binary.Decode(b[len(b)-22:], binary.LittleEndian, &end)
	if end != (ending{0x06054b50, 0, 0, end.All, end.All, end.Size, end.At, 0}) || end.All > api.MaxParts || uint64(end.At)+uint64(end.Size)+22 != uint64(len(b)) {
		return nil, api.ErrZip
	}
	directory := b[end.At : len(b)-22]
	var lists []listing
	var names []string
	for range end.All {
		var f listing
		if n, err := binary.Decode(directory, binary.LittleEndian, &f); err != nil || len(directory) < n+int(f.NameLength) {
			return nil, api.ErrZip
		}
		if f != (listing{0x02014b50, 20, 20, 0, f.Method, 0, 33, f.Crc, f.Stands, f.Size, f.NameLength, 0, 0, 0, 0, 0, f.At}) {
			return nil, api.ErrZip
		}
		lists = append(lists, f)
		names = append(names, string(directory[46:46+int(f.NameLength)]))
		directory = directory[46+int(f.NameLength):]
	}
	if len(directory) > 0 {
		return nil, api.ErrZip
	}
	return modelFiles(b[:len(b)-22], int(end.At), lists, names, most)
}

func modelFiles(b []byte, directory int, lists []listing, names []string, most int) ([]api.File, api.Errno) {
	var l []api.File
	at, total := 0, 0
	seen := map[string]bool{}
	for i, f := range lists {
		name := names[i]
		if !zip.Right(name) {
			return nil, api.ErrName
		}
		if seen[strings.ToLower(name)] {
			return nil, api.ErrTwice
		}
		seen[strings.ToLower(name)] = true
		var h localHeader
		n, err := binary.Decode(b[at:], binary.LittleEndian, &h)
		if err != nil || f.Method != 0 && f.Method != 8 || int(f.At) != at || !strings.HasPrefix(string(b[at+n:]), name) ||
			h != (localHeader{0x04034b50, 20, 0, f.Method, 0, 33, f.Crc, f.Stands, f.Size, f.NameLength, 0}) {
			return nil, api.ErrZip
		}
		total += int(f.Size)
		if f.Size > api.MaxPart || total > most {
			return nil, api.ErrBig
		}
		from := at + 30 + len(name)
		at = from + int(f.Stands)
		if at > directory || f.Method == 0 && f.Stands != f.Size {
			return nil, api.ErrZip
		}
		data := b[from:at]
		if f.Method == 8 {
			told, took, e := inflate.Inflate(data, int(f.Size))
			if e != api.OK && e != api.ErrBig {
				return nil, e
			}
			if e == api.ErrBig || took != len(data) || len(told) != int(f.Size) {
				return nil, api.ErrData
			}
			data = told
		}
		if crc32.ChecksumIEEE(data) != f.Crc {
			return nil, api.ErrSum
		}
		l = append(l, api.File{Name: name, Data: data})
	}
	if at != directory {
		return nil, api.ErrZip
	}
	return l, api.OK
}

// spoil turns something of an archive by chance.
func (m *made) spoil(chance *rand.Rand) {
	some := []uint32{0, 1, 2, 3, 8, 20, 33, 46, 100, 255, 256, 65535, api.MaxPart, api.MaxPart + 1, 1 << 31, 1<<32 - 1}
	v := some[chance.Intn(len(some))]
	if len(m.Pieces) == 0 || chance.Intn(8) == 0 {
		turn := []*uint32{&m.End.At, &m.End.Size, &m.End.Sign}
		*turn[chance.Intn(3)] += v
		return
	}
	p := m.Pieces[chance.Intn(len(m.Pieces))]
	names := []string{"f0", "F1", "f2", "new", "", "/", "a/b", "..", strings.Repeat("l", 255)}
	switch chance.Intn(12) {
	case 0:
		p.method(uint16(v))
	case 1:
		p.crc(p.Local.Crc + v)
	case 2:
		p.stands(p.Local.Stands + v)
	case 3:
		p.size(p.Local.Size + v)
	case 4:
		p.size(p.Local.Size - 1)
	case 5:
		p.stands(p.Local.Stands - 1)
	case 6:
		p.name(names[chance.Intn(len(names))])
	case 7:
		p.stream(p.Stream + "x")
	case 8:
		p.stream(noise(chance.Int63(), chance.Intn(9)))
	case 9:
		p.Listed.At += v
	case 10:
		m.Gap += "x"
	case 11:
		p.Local.NameLength += uint16(v)
	}
}

// P502, P503: archives that are wrong in several ways by chance, held against the model.
func TestAsTheModel(t *testing.T) {
	chance := rand.New(rand.NewSource(502))
	met := map[api.Errno]int{}
	for range 20000 {
		var l []api.File
		for i := range chance.Intn(4) {
			l = append(l, file(fmt.Sprint("f", i), strings.Repeat("text", chance.Intn(4))))
		}
		m := makeOf(l, chance.Intn(2)*8, chance.Intn(2)*8)
		laid := chance.Intn(3) > 0
		for range chance.Intn(4) {
			m.spoil(chance)
		}
		if laid {
			m.lay()
		}
		b := m.bytes()
		for range chance.Intn(8) / 6 {
			b[chance.Intn(len(b))] ^= 1 << chance.Intn(8)
		}
		most := chance.Intn(40)
		want, wantE := modelRead(b, most)
		got, e := read(t, b, most)
		if e != wantE || !same(got, want) {
			t.Fatalf("Read of %x, most %d: error %d, not %d", b, most, e, wantE)
		}
		met[e]++
		want, wantE = modelRead(b, 1<<30)
		if names, e := zip.Names(b); e != wantE || !slices.Equal(names, namesOf(want)) {
			t.Fatalf("Names of %x: %q, error %d, not %q, %d", b, names, e, namesOf(want), wantE)
		}
	}
	for _, e := range []api.Errno{api.OK, api.ErrBig, api.ErrEnd, api.ErrData, api.ErrSum, api.ErrZip, api.ErrName, api.ErrTwice} {
		if met[e] == 0 {
			t.Errorf("no archive had error %d", e)
		}
	}
}

// Rule 4: nothing is shared, what is handed in is not changed.
func TestSharesNothing(t *testing.T) {
	for _, method := range methods {
		room := []byte("one two, spare")
		l := []api.File{{Name: "a", Data: room[:3]}, {Name: "b", Data: room[4:7]}, {Name: "c", Data: nil}}
		b := write(t, l, method)
		if string(room) != "one two, spare" {
			t.Errorf("Write has changed a file: %q", room)
		}
		copy(room, "xxxxxxxxxxxxxx")
		kept := bytes.Clone(b)
		first, e := zip.Read(b, 100)
		second, _ := zip.Read(b, 100)
		if e != api.OK {
			t.Fatal(e)
		}
		for i := range first {
			data := first[i].Data
			for j := range data[:cap(data)] {
				data[:cap(data)][j] = '!'
			}
		}
		if !bytes.Equal(b, kept) {
			t.Errorf("what Read hands out is a part of what it was given")
		}
		want := []api.File{file("a", "one"), file("b", "two"), file("c", "")}
		if !same(second, want) {
			t.Errorf("two answers of Read share bytes")
		}
		clear(b)
		if !same(second, want) {
			t.Errorf("Read keeps what it was given")
		}
		if again := write(t, want, method); !bytes.Equal(again, kept) {
			t.Errorf("Write of the same files is another archive")
		}
	}
}
