package resize_test

import (
	"bytes"
	"encoding/binary"
	"hash/maphash"
	"math"
	"math/rand"
	"slices"
	"strconv"
	"testing"

	"fettle/api"
	"fettle/ext"
	"fettle/extent"
	"fettle/fat"
	"fettle/parts"
	"fettle/rawguest"
	"fettle/resize"
)

// The signatures that the document lists.
var (
	_ func(api.Disk) (int, []api.Path, extent.Set, api.Errno) = resize.Known
	_ func(api.Disk, int64) ([]resize.Piece, api.Errno)       = resize.FatTo
	_ func(api.Disk, int64) ([]resize.Piece, api.Errno)       = resize.ExtTo
	_ func(api.Disk, int64) ([]resize.Piece, api.Errno)       = resize.Last
	_                                                         = parts.Piece(resize.Piece{At: int64(1), B: []byte{}})
	_ [resize.Unknown]bool                                    = [0]bool{}
	_ [resize.Fat]bool                                        = [1]bool{}
	_ [resize.Ext]bool                                        = [2]bool{}
)

// extremes: numbers with which a sum or a product would wrap round.
var extremes = []int64{
	math.MinInt64, math.MinInt64 + 1, math.MinInt64 + 100, -1 << 55, -1 << 54, math.MinInt32, -32768, -512, -2, -1,
	32767, 32768, 32769, 65536, math.MaxInt32, math.MaxUint32, 1 << 54, 1 << 55, 1 << 60, math.MaxInt64 - 100, math.MaxInt64 - 1, math.MaxInt64,
}

// bare is a disk that hands out its own bytes, with all room behind them: who
// writes into them is found out.
type bare []byte

func (m bare) Size() int64 { return int64(len(m)) }

func (m bare) Read(at, n int64) ([]byte, api.Errno) {
	if at < 0 || n < 0 || n > int64(len(m))-at {
		return nil, api.ErrRange
	}
	return m[at : at+n], api.OK
}

// odd is a disk that answers as it is told, and counts its reads.
type odd struct {
	bare
	reads  int
	answer func(read int, at, n int64) ([]byte, api.Errno, bool)
}

func (o *odd) Read(at, n int64) ([]byte, api.Errno) {
	o.reads++
	if b, e, told := o.answer(o.reads, at, n); told {
		return b, e
	}
	return o.bare.Read(at, n)
}

var seed = maphash.MakeSeed()

// look: by which it is seen whether bytes are changed.
func look(d []byte) uint64 { return maphash.Bytes(seed, d) }

func ok(t *testing.T, e api.Errno) {
	t.Helper()
	if e != api.OK {
		t.Fatal("error", e)
	}
}

func pattern(n int, seed int64) []byte {
	b := make([]byte, n)
	rand.New(rand.NewSource(seed)).Read(b)
	return b
}

func put16(b []byte, at int, v int64) { binary.LittleEndian.PutUint16(b[at:], uint16(v)) }
func put32(b []byte, at int, v int64) { binary.LittleEndian.PutUint32(b[at:], uint32(v)) }
func get16(b []byte, at int) int64    { return int64(binary.LittleEndian.Uint16(b[at:])) }
func get32(b []byte, at int) int64    { return int64(binary.LittleEndian.Uint32(b[at:])) }

// longer: bytes, with any others behind them up to a length; or fewer of them.
func longer(d []byte, n int64) []byte {
	if n <= int64(len(d)) {
		return bytes.Clone(d[:n])
	}
	return append(bytes.Clone(d), pattern(int(n)-len(d), n)...)
}

// written: pieces are written on a copy of a disk.
func written(t *testing.T, d []byte, l []resize.Piece) []byte {
	t.Helper()
	d = bytes.Clone(d)
	for _, p := range l {
		if p.At < 0 || p.At+int64(len(p.B)) > int64(len(d)) {
			t.Fatal("a piece outside, at", p.At)
		}
		copy(d[p.At:], p.B)
	}
	return d
}

func samePieces(a, b []resize.Piece) bool {
	return slices.EqualFunc(a, b, func(x, y resize.Piece) bool { return x.At == y.At && bytes.Equal(x.B, y.B) })
}

// places: where pieces are, and how many bytes they have.
func places(l []resize.Piece) (s []string) {
	for _, p := range l {
		s = append(s, strconv.FormatInt(p.At, 10)+"+"+strconv.Itoa(len(p.B)))
	}
	return s
}

func samePaths(a, b []api.Path) bool {
	return slices.EqualFunc(a, b, func(x, y api.Path) bool {
		return x.Name == y.Name && x.Kind == y.Kind && x.Size == y.Size && slices.Equal(x.Runs, y.Runs)
	})
}

// holds: a partition is known as of a kind, with just these files, and each has its
// bytes; its paths, and what is free.
func holds(t *testing.T, what string, d []byte, kind int, files []rawguest.File) ([]api.Path, extent.Set) {
	t.Helper()
	ahead := look(d)
	got, paths, free, e := resize.Known(bare(d))
	want := rawguest.Paths(files...)
	if e != api.OK || got != kind || len(paths) != len(want) {
		t.Fatalf("%s: kind %d, error %d, %d paths, not %d", what, got, e, len(paths), len(want))
	}
	for i, w := range want {
		p := paths[i]
		if p.Name != w.Name || (p.Kind == api.Folder) != w.Folder {
			t.Fatalf("%s: %+v, not %s", what, p, w.Name)
		}
		if b, e := parts.Content(bare(d), p); !w.Folder && (e != api.OK || !bytes.Equal(b, w.Data)) {
			t.Fatalf("%s: %s: error %d, or other bytes", what, w.Name, e)
		}
	}
	if look(d) != ahead {
		t.Fatalf("%s: what was handed in is changed", what)
	}
	return paths, free
}

// anyFiles: so many files and folders, of any bytes, some with noughts among them.
func anyFiles(r *rand.Rand, n, most int) (list []rawguest.File) {
	for i := range n {
		f := rawguest.File{Name: "F" + strconv.Itoa(i) + ".X"}
		if f.Folder = r.Intn(4) == 0; f.Folder {
			f.Inside = anyFiles(r, r.Intn(n), most)
		} else {
			f.Data = pattern(r.Intn(most), r.Int63())
			if len(f.Data) > 2048 && r.Intn(2) == 0 {
				clear(f.Data[1024:2048])
			}
		}
		list = append(list, f)
	}
	return list
}

// room: how many clusters, or blocks, files ask for at most, of so many bytes each.
func room(files []rawguest.File, unit int) (n int64) {
	for _, p := range rawguest.Paths(files...) {
		n += int64(len(p.Data)/unit) + 3
	}
	return n
}

// fatShape: any fields of a first sector, for a volume of so many clusters at least
// and any table with room for more, or for just so many.
func fatShape(r *rand.Rand, least int64) rawguest.Fat {
	f := rawguest.Fat{Each: 1 << r.Intn(4), Ahead: 2 + r.Int63n(6), Tables: 1 + r.Int63n(2), Vague: r.Intn(3) == 0}
	clusters := least + r.Int63n(40)
	f.Long = (clusters+2+127)/128 + r.Int63n(2)
	f.Info = 1 + r.Int63n(f.Ahead-1)
	if f.Copy = r.Int63n(f.Ahead); f.Copy == f.Info {
		f.Copy = 0
	}
	f.Sectors = f.Ahead + f.Tables*f.Long + f.Each*clusters + r.Int63n(f.Each)
	f.Next = []int64{0, 1, 2, clusters + 1, clusters + 2, clusters + 60, 1 << 31, 0xFFFFFFFF, r.Int63n(clusters + 2)}[r.Intn(9)]
	return f
}

// anyFat: a volume with any files, its clusters in any order, or packed ahead; on a
// partition with more bytes, or without.
func anyFat(r *rand.Rand, seed int64) (*rawguest.Fat, []rawguest.File) {
	files := anyFiles(r, 1+r.Intn(5), 3000)
	shape := fatShape(r, room(files, 512))
	f := rawguest.NewFat(shape, pattern(int(512*shape.Sectors)+r.Intn(2)*r.Intn(5000), seed))
	if r.Intn(3) == 0 {
		r.Shuffle(len(f.Left), func(i, j int) { f.Left[i], f.Left[j] = f.Left[j], f.Left[i] })
	} else if half := len(f.Left) / 2; r.Intn(2) == 0 {
		r.Shuffle(half, func(i, j int) { f.Left[i], f.Left[j] = f.Left[j], f.Left[i] })
	}
	f.Hold(files...)
	if r.Intn(4) == 0 {
		f.Numbers[f.Left[0]-2] = 0x0FFFFFF7 // a bad one
	}
	return f, files
}

// fatByWords: what FatTo must answer, by the sectors' bytes.
func fatByWords(d []byte, sectors int64) (l []resize.Piece, e api.Errno) {
	if _, e := fat.Open(bare(d)); e != api.OK {
		return nil, e
	}
	each, ahead, tables, long := int64(d[13]), get16(d, 14), int64(d[16]), get32(d, 36)
	info, again := get16(d, 48), get16(d, 50)
	data := ahead + tables*long
	was := (get32(d, 32) - data) / each
	if sectors < data+each {
		return nil, api.ErrSmall
	}
	then := (sectors - data) / each
	switch {
	case sectors > 32768 || then+2 > 128*long:
		return nil, api.ErrLimit
	case get32(d, 44)-2 >= then:
		return nil, api.ErrSmall
	}
	table := bytes.Clone(d[512*ahead : 512*(ahead+long)])
	free := max(then-was, 0)
	for c := range was {
		switch isFree := get32(table, int(8+4*c))%(1<<28) == 0; {
		case isFree && c < then:
			free++
		case !isFree && c >= then:
			return nil, api.ErrSmall
		}
	}
	first := bytes.Clone(d[:512])
	put32(first, 32, sectors)
	l = append(l, resize.Piece{B: first})
	if again > 0 {
		l = append(l, resize.Piece{At: 512 * again, B: first})
	}
	counts := bytes.Clone(d[512*info : 512*info+512])
	if get32(counts, 488) < 1<<32-1 {
		put32(counts, 488, free)
	}
	if get32(counts, 492) >= then+2 {
		put32(counts, 492, 1<<32-1)
	}
	l = append(l, resize.Piece{At: 512 * info, B: counts})
	for c := was; c < then; c++ {
		put32(table, int(8+4*c), 0)
	}
	for s := range long {
		if then <= was || 128*s+127 < was+2 || 128*s > then+1 {
			continue
		}
		for n := range tables {
			l = append(l, resize.Piece{At: 512 * (ahead + n*long + s), B: table[512*s : 512*s+512]})
		}
	}
	return l, api.OK
}

// fatTo: FatTo's answer, held against the plain one; the disk stays as it is.
func fatTo(t *testing.T, what string, d []byte, sectors int64) ([]resize.Piece, api.Errno) {
	t.Helper()
	ahead := look(d)
	want, e := fatByWords(d, sectors)
	l, got := resize.FatTo(bare(d), sectors)
	if got != e || !samePieces(l, want) {
		t.Fatalf("%s: to %d sectors: error %d, not %d; %v, not %v", what, sectors, got, e, places(l), places(want))
	}
	if look(d) != ahead {
		t.Fatalf("%s: what was handed in is changed", what)
	}
	return l, got
}

// span is a group's blocks: the first, and the one behind the last.
type span struct{ from, to int64 }

// spans: a volume's groups, laid one behind the other till all blocks are in one.
func spans(blocks, per int64) (l []span) {
	for from := int64(1); from < blocks; from += per {
		l = append(l, span{from, min(from+per, blocks)})
	}
	return l
}

// set: bits from one on, up to another, are set, or aren't.
func set(b []byte, from, to int64, on bool) []byte {
	for i := from; i < to; i++ {
		b[i/8] &^= 1 << (i % 8)
		if on {
			b[i/8] |= 1 << (i % 8)
		}
	}
	return b
}

// spared: is nothing in use of what a group loses? Its row, its old and new blocks;
// none of these: it is no longer there.
func spared(d, row []byte, was, then span, each int64) bool {
	m := d[1024*get32(row, 0):]
	for n := max(was.from, then.to); n < was.to; n++ {
		fixed := n < was.from+2 || n == get32(row, 0) || n == get32(row, 4) || n >= get32(row, 8) && n < get32(row, 8)+each/8
		if rawguest.Bit(m, n-was.from) && !(fixed && then.to == 0) {
			return false
		}
	}
	return then.to > 0 || rawguest.Count(d[1024*get32(row, 4):], each) == each
}

// extByWords: what ExtTo must answer, by the blocks' bytes.
func extByWords(d []byte, blocks int64) (l []resize.Piece, e api.Errno) {
	if _, e := ext.Open(bare(d)); e != api.OK {
		return nil, e
	}
	super, per, each := bytes.Clone(d[1024:2048]), get32(d, 1024+32), get32(d, 1024+40)
	if blocks < 8 {
		return nil, api.ErrSmall
	}
	if blocks > 16384 || len(spans(blocks, per)) > 32 {
		return nil, api.ErrLimit
	}
	was, then := spans(get32(super, 4), per), spans(blocks, per)
	if last := then[len(then)-1]; last.to-last.from < each/8+5 {
		return nil, api.ErrSmall
	}
	for g, x := range was {
		if !spared(d, d[2048+32*g:], x, append(then, make([]span, 32)...)[g], each) {
			return nil, api.ErrSmall
		}
	}
	rows, blocksLeft, nodesLeft := make([]byte, 1024), int64(0), int64(0)
	add := func(block int64, b []byte) { l = append(l, resize.Piece{At: 1024 * block, B: b}) }
	for g, x := range then {
		row := rows[32*g : 32*g+32]
		if g < len(was) {
			copy(row, d[2048+32*g:])
			m := bytes.Clone(d[1024*get32(row, 0):][:1024])
			m = set(set(m, was[g].to-x.from, x.to-x.from, false), x.to-x.from, 8192, true)
			put16(row, 12, rawguest.Count(m, per))
			add(get32(row, 0), m)
		} else {
			put32(row, 0, x.from+2)
			put32(row, 4, x.from+3)
			put32(row, 8, x.from+4)
			put16(row, 12, x.to-x.from-4-each/8)
			put16(row, 14, each)
			add(x.from+2, set(bytes.Repeat([]byte{255}, 1024), 4+each/8, x.to-x.from, false))
			add(x.from+3, set(bytes.Repeat([]byte{255}, 1024), 0, each, false))
			for i := range each / 8 {
				add(x.from+4+i, make([]byte, 1024))
			}
		}
		blocksLeft, nodesLeft = blocksLeft+get16(row, 12), nodesLeft+get16(row, 14)
	}
	for at, v := range map[int]int64{0: int64(len(then)) * each, 4: blocks, 12: blocksLeft, 16: nodesLeft} {
		put32(super, at, v)
	}
	for _, x := range then {
		add(x.from, super)
		add(x.from+1, rows)
	}
	return l, api.OK
}

// extTo: ExtTo's answer, held against the plain one; the disk stays as it is.
func extTo(t *testing.T, what string, d []byte, blocks int64) ([]resize.Piece, api.Errno) {
	t.Helper()
	ahead := look(d)
	want, e := extByWords(d, blocks)
	l, got := resize.ExtTo(bare(d), blocks)
	if got != e || !samePieces(l, want) {
		t.Fatalf("%s: to %d blocks: error %d, not %d; %v, not %v", what, blocks, got, e, places(l), places(want))
	}
	if look(d) != ahead {
		t.Fatalf("%s: what was handed in is changed", what)
	}
	return l, got
}

// anyExt: a volume with any files, its fixed blocks anywhere, its blocks and inodes in
// any order, or packed ahead; on a partition with more bytes, or without.
func anyExt(r *rand.Rand, seed int64) (*rawguest.Ext, []rawguest.File) {
	files := anyFiles(r, 1+r.Intn(4), 5000)
	shape := rawguest.Ext{Per: 64 + 8*r.Int63n(3), Each: 16 + 8*r.Int63n(4), First: 11, Types: r.Intn(2) == 0}
	shape.Each = max(shape.Each, (int64(len(rawguest.Paths(files...)))+20)/8*8)
	fixed := 4 + shape.Each/8
	full := room(files, 1024)/(shape.Per-fixed) + 1 + r.Int63n(3)
	shape.Blocks = 1 + full*shape.Per + fixed + r.Int63n(shape.Per-fixed)
	far := func(int64) int64 { return 0 }
	if r.Intn(2) == 0 {
		far = func(room int64) int64 { return r.Int63n(room + 1) }
	}
	x := rawguest.NewExt(shape, pattern(int(1024*shape.Blocks)+r.Intn(2)*r.Intn(5000), seed), far)
	if r.Intn(3) == 0 {
		r.Shuffle(len(x.Left), func(i, j int) { x.Left[i], x.Left[j] = x.Left[j], x.Left[i] })
		r.Shuffle(len(x.Spare), func(i, j int) { x.Spare[i], x.Spare[j] = x.Spare[j], x.Spare[i] })
	}
	return x.Hold(files...), files
}
