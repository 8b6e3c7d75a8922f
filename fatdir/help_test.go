package fatdir_test

import (
	"bytes"
	"encoding/binary"
	"math/rand"
	"slices"
	"testing"
	"unicode/utf16"

	"fettle/api"
	"fettle/extent"
	"fettle/fat"
	"fettle/fatdir"
)

// The signatures that the document lists.
var (
	_ func([]byte) ([]fatdir.Row, api.Errno)             = fatdir.Rows
	_ func(api.Disk) ([]api.Path, extent.Set, api.Errno) = fatdir.Tree
	_ func(api.Disk) ([]int64, api.Errno)                = fatdir.Lost
	_                                                    = fatdir.Row{Name: "", Folder: true, First: int64(1), Size: int64(1)}
	_ [1]bool                                            = [fatdir.RowSize - 31]bool{}
)

// bare is a disk that hands out its own bytes, with all room behind them: who
// writes into them is found out.
type bare []byte

func (m bare) Size() int64 { return int64(len(m)) }

func (m bare) Read(at, n int64) ([]byte, api.Errno) {
	if at < 0 || n < 0 || n > int64(len(m))-at {
		return nil, api.ErrRange
	}
	return m[at : at+n], api.OK
}

// odd is a disk that answers as it is told, and counts its reads.
type odd struct {
	bare
	reads  int
	answer func(read int, at, n int64) ([]byte, api.Errno, bool)
}

func (o *odd) Read(at, n int64) ([]byte, api.Errno) {
	o.reads++
	if b, e, told := o.answer(o.reads, at, n); told {
		return b, e
	}
	return o.bare.Read(at, n)
}

func ok(t *testing.T, e api.Errno) {
	t.Helper()
	if e != api.OK {
		t.Fatal("error", e)
	}
}

func pattern(n int, seed int64) []byte {
	b := make([]byte, n)
	rand.New(rand.NewSource(seed)).Read(b)
	return b
}

// filler: the bytes of a row that say nothing: any, and quickly made.
func filler(seed int64) []byte {
	b := make([]byte, 32)
	for i := range b {
		seed = seed*6364136223846793005 + 1442695040888963407
		b[i] = byte(seed >> 56)
	}
	return b
}

func put16(b []byte, at int, v int64) { binary.LittleEndian.PutUint16(b[at:], uint16(v)) }
func put32(b []byte, at int, v int64) { binary.LittleEndian.PutUint32(b[at:], uint32(v)) }
func get16(b []byte, at int) int64    { return int64(binary.LittleEndian.Uint16(b[at:])) }
func get32(b []byte, at int) int64    { return int64(binary.LittleEndian.Uint32(b[at:])) }

// Attributes.
const (
	plain  = 0x20
	label  = 0x08
	folder = 0x10
)

// row: a row of a short name (11 bytes), by hand; all bytes that say nothing are any.
func row(short string, attributes byte, first, size int64) []byte {
	if len(short) != 11 {
		panic("a short name has 11 bytes: " + short)
	}
	b := filler(first*31 + size)
	copy(b, short)
	b[11] = attributes
	put16(b, 20, first>>16)
	put16(b, 26, first)
	put32(b, 28, size)
	return b
}

// sumOf: of each byte: the number is turned right by a bit, and the byte is added.
func sumOf(short string) byte {
	n := 0
	for i := range 11 {
		n = n/2 + n%2*128
		n = (n + int(short[i])) % 256
	}
	return byte(n)
}

// part: a part of a long name; letters that aren't told are FFFF, as they are behind
// a name's end.
func part(first, sum byte, letters ...uint16) []byte {
	b := filler(int64(first)*256 + int64(sum))
	b[0], b[11], b[13] = first, 0x0F, sum
	for i, at := range []int{1, 3, 5, 7, 9, 14, 16, 18, 20, 22, 24, 28, 30} {
		v := int64(0xFFFF)
		if i < len(letters) {
			v = int64(letters[i])
		}
		put16(b, at, v)
	}
	return b
}

// parts: the parts of a long name, as they come: the last one first. A 0 is behind the
// letters, if there is room.
func parts(letters []uint16, sum byte) []byte {
	if len(letters)%13 != 0 || len(letters) == 0 {
		letters = append(slices.Clone(letters), 0)
	}
	var b []byte
	last := byte(0x40)
	for n := (len(letters) + 12) / 13; n > 0; n-- {
		b = append(b, part(byte(n)|last, sum, letters[13*n-13:min(13*n, len(letters))]...)...)
		last = 0
	}
	return b
}

// named: a row with its long name ahead of it.
func named(name, short string, attributes byte, first, size int64) []byte {
	return append(parts(utf16.Encode([]rune(name)), sumOf(short)), row(short, attributes, first, size)...)
}

// rowsByWords: what Rows must answer. Each row looks back for its own long name.
func rowsByWords(b []byte) (list []fatdir.Row, e api.Errno) {
	for at := 0; at+32 <= len(b) && b[at] != 0; at += 32 {
		x := b[at : at+32]
		if x[0] == 0xE5 || x[11]%64 == 15 {
			continue
		}
		r := fatdir.Row{Folder: x[11]/16%2 == 1, First: get16(x, 20)*65536 + get16(x, 26), Size: get32(x, 28)}
		short := string(x[:11])
		stem, end := short[:8], short[8:]
		if stem[0] == 5 {
			stem = "\xE5" + stem[1:]
		}
		for len(stem) > 0 && stem[len(stem)-1] == ' ' {
			stem = stem[:len(stem)-1]
		}
		for len(end) > 0 && end[len(end)-1] == ' ' {
			end = end[:len(end)-1]
		}
		if r.Name = stem; end != "" {
			r.Name += "." + end
		}
		if letters, has := longAhead(b[:at], sumOf(short)); has {
			r.Name = spelt(letters)
		}
		switch {
		case x[11]/8%2 == 1 || r.Name == "." || r.Name == "..":
		case r.Name == "":
			return nil, api.ErrName
		default:
			list = append(list, r)
		}
	}
	return list, api.OK
}

// longAhead: the letters of the long name that stands right ahead of a row: parts 1,
// 2 .. up to that with 40, looking back.
func longAhead(b []byte, sum byte) (letters []uint16, has bool) {
	for n := 1; n <= 20 && 32*n <= len(b); n++ {
		x := b[len(b)-32*n:][:32]
		if x[0] == 0xE5 || x[11]%64 != 15 || int(x[0]%64) != n || x[13] != sum {
			return nil, false
		}
		for _, at := range []int{1, 3, 5, 7, 9, 14, 16, 18, 20, 22, 24, 28, 30} {
			letters = append(letters, uint16(get16(x, at)))
		}
		if x[0]/64%2 == 1 {
			return letters, true
		}
	}
	return nil, false
}

func spelt(letters []uint16) string {
	for i, v := range letters {
		if v == 0 {
			letters = letters[:i]
			break
		}
	}
	return string(utf16.Decode(letters))
}

// rows: Rows' answer, held against the plain one; the bytes stay as they are, their
// spare room too, and the answer is memory of its own.
func rows(t *testing.T, what string, b []byte) ([]fatdir.Row, api.Errno) {
	t.Helper()
	room := append(slices.Clone(b), filler(5)...)
	in := room[:len(b)]
	want, e := rowsByWords(b)
	list, got := fatdir.Rows(in)
	if got != e || !slices.Equal(list, want) {
		t.Fatalf("%s: %+v %d, not %+v %d; of %x", what, list, got, want, e, b)
	}
	if !bytes.Equal(in, b) || !bytes.Equal(room[len(b):], filler(5)) {
		t.Fatalf("%s: what was handed in is changed", what)
	}
	clear(room)
	if !slices.Equal(list, want) {
		t.Fatalf("%s: the answer hangs on what was handed in", what)
	}
	return list, e
}

// names: that bytes name just these, and the plain answer is the same.
func names(t *testing.T, what string, b []byte, want ...string) {
	t.Helper()
	list, e := rows(t, what, b)
	if e != api.OK || len(list) != len(want) {
		t.Errorf("%s: %+v, error %d, not %q", what, list, e, want)
		return
	}
	for i, r := range list {
		if r.Name != want[i] {
			t.Errorf("%s: %q, not %q", what, r.Name, want[i])
		}
	}
}

// world is a volume that is made by hand: what its table says, and which clusters
// are still to be had, in which order.
type world struct {
	fat.Boot
	d    []byte
	next []uint32
	left []int64
}

// clusters: how many there are.
func clusters(b fat.Boot) int64 {
	return (b.Sectors - b.Ahead - b.Tables*b.Long) / b.Each
}

// newWorld: a volume of any bytes, so many clusters; the root has one. With a seed
// above 0 clusters come in any order.
func newWorld(each, count, seed int64) *world {
	r := rand.New(rand.NewSource(seed))
	b := fat.Boot{Each: each, Ahead: 3 + r.Int63n(5), Tables: 1 + r.Int63n(2), Long: (count+2+127)/128 + r.Int63n(2), Info: 1}
	b.Copy = 2 * r.Int63n(2)
	b.Sectors = b.Ahead + b.Tables*b.Long + each*count + r.Int63n(each)
	w := &world{Boot: b, d: pattern(int(512*b.Sectors)+r.Intn(700), seed), next: make([]uint32, count)}
	for c := range count {
		w.left = append(w.left, c+2)
	}
	if seed > 0 {
		r.Shuffle(len(w.left), func(i, j int) { w.left[i], w.left[j] = w.left[j], w.left[i] })
	}
	w.Root = w.take(1)[0]
	w.put(w.Root, nil)
	return w
}

// take: so many clusters more, as a chain.
func (w *world) take(n int64) []int64 {
	if n > int64(len(w.left)) {
		panic("no cluster is left")
	}
	chain := w.left[:n:n]
	w.left = w.left[n:]
	w.link(chain...)
	return chain
}

// link: the table says that these are a chain.
func (w *world) link(chain ...int64) {
	for i, c := range chain {
		w.next[c-2] = 0x0FFFFFF8 + uint32(c%8)
		if i+1 < len(chain) {
			w.next[c-2] = uint32(chain[i+1])
		}
	}
}

// unit: a cluster's bytes.
func (w *world) unit() int64 { return 512 * w.Each }

// at: where a cluster's bytes begin.
func (w *world) at(c int64) int64 {
	return 512*(w.Ahead+w.Tables*w.Long) + (c-2)*w.unit()
}

// chain: the clusters from one on, as the table says: of chains that are right.
func (w *world) chain(first int64) (l []int64) {
	for c := first; c < 0x0FFFFFF8; c = int64(w.next[c-2]) {
		l = append(l, c)
	}
	return l
}

// put: bytes are written into the clusters of a chain; a 0 behind them, if there is room.
func (w *world) put(first int64, b []byte) {
	b = append(slices.Clone(b), 0)
	for _, c := range w.chain(first) {
		b = b[copy(w.d[w.at(c):w.at(c)+w.unit()], b):]
	}
	if len(b) > 1 {
		panic("the bytes are too many")
	}
}

// hold: how many clusters hold so many bytes; a folder of none has one all the same.
func (w *world) hold(n int) int64 { return (int64(n) + w.unit() - 1) / w.unit() }

// root: the root gets these rows, and as many clusters as they ask for.
func (w *world) root(b ...[]byte) {
	all := bytes.Join(b, nil)
	chain := append(w.chain(w.Root), w.take(max(w.hold(len(all)), 1)-int64(len(w.chain(w.Root))))...)
	w.link(chain...)
	w.put(w.Root, all)
}

// fill: a new chain with these bytes; its first cluster.
func (w *world) fill(b ...[]byte) int64 {
	all := bytes.Join(b, nil)
	chain := w.take(max(w.hold(len(all)), 1))
	w.put(chain[0], all)
	return chain[0]
}

// disk: the volume's bytes: first sector, counts and tables are written now.
func (w *world) disk() []byte {
	s := w.d[:512]
	if e := w.Put(s); e != api.OK {
		panic("no boot")
	}
	if w.Copy > 0 {
		copy(w.d[512*w.Copy:], s)
	}
	free := int64(0)
	for _, v := range w.next {
		if v == 0 {
			free++
		}
	}
	counts, e := fat.PutCounts(fat.Counts{Free: free, Next: 2})
	if e != api.OK {
		panic("no counts")
	}
	copy(w.d[512*w.Info:], counts)
	for n := range w.Tables {
		table := w.d[512*(w.Ahead+n*w.Long) : 512*(w.Ahead+(n+1)*w.Long)]
		copy(table, pattern(len(table), 7))
		for i, v := range w.next {
			put32(table, 8+4*i, int64(v)|get32(table, 8+4*i)&0xF0000000)
		}
	}
	return bytes.Clone(w.d)
}
