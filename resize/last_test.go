package resize_test

import (
	"bytes"
	"math"
	"math/rand"
	"slices"
	"testing"

	"fettle/api"
	"fettle/ext"
	"fettle/fat"
	"fettle/gpt"
	"fettle/mbr"
	"fettle/parts"
	"fettle/rawguest"
	"fettle/resize"
)

// world is a disk, and what is known of its last partition: its first sector, how many
// it has, and how many it may have at most; what it holds.
type world struct {
	d           []byte
	from        int64
	count, most int64
	kind        int
	files       []rawguest.File
}

// sector: an MBR's sector with these entries, on bytes that else stay.
func sector(d []byte, at int64, entries ...mbr.Entry) {
	b := d[512*at : 512*at+512]
	for i := range 4 {
		b[446+16*i] &= 0x80
		x := mbr.Entry{}
		if i < len(entries) {
			x = entries[i]
		}
		if e := mbr.Put(b, i, x); e != api.OK {
			panic(e)
		}
	}
	b[510], b[511] = 0x55, 0xAA
}

// table: a GPT is written, with these partitions.
func table(d []byte, first, last int64, list ...[2]int64) {
	sectors := int64(len(d)) / 512
	g := gpt.Table{Sectors: sectors, At: 2, First: first, Last: last, Behind: sectors - 3, List: make([]gpt.Entry, 6)}
	for i, x := range list {
		g.List[i+1] = gpt.Entry{First: x[0], Last: x[0] + x[1] - 1}
		copy(g.List[i+1].Ids[:], pattern(32, int64(i)))
		copy(g.List[i+1].Rest[:], pattern(80, int64(i)))
	}
	l, e := g.Encode()
	if e != api.OK {
		panic(e)
	}
	for _, p := range l {
		copy(d[p.At:], p.B)
	}
	sector(d, 0, mbr.Entry{Type: mbr.Guard, First: 1, Count: sectors - 1})
}

// ways: how a disk with a last partition of some bytes, and room for so many sectors
// more, may be laid.
var ways = []func(volume []byte, more int64) *world{
	func(volume []byte, more int64) *world { // alone, up to the disk's end
		n := int64(len(volume)) / 512
		w := &world{from: 10, count: n, most: n + more}
		w.d = pattern(int(512*(10+n+more)), 1)
		sector(w.d, 0, mbr.Entry{Type: 12, First: 10, Count: n})
		return w
	},
	func(volume []byte, more int64) *world { // behind two others, in the first slot; the disk ends within a sector
		n := int64(len(volume)) / 512
		w := &world{from: 90, count: n, most: n + more}
		w.d = pattern(int(512*(90+n+more)+100), 2)
		made, _ := fat.Make(40, 1)
		copy(w.d[512*8:], made)
		sector(w.d, 0, mbr.Entry{Type: 0x83, First: 90, Count: n}, mbr.Entry{}, mbr.Entry{Type: 12, First: 8, Count: 40}, mbr.Entry{Type: 7, First: 50, Count: 40})
		return w
	},
	func(volume []byte, more int64) *world { // ahead of a part for those within, that has none
		n := int64(len(volume)) / 512
		w := &world{from: 3, count: n, most: n + more}
		w.d = pattern(int(512*(3+n+more+20)), 3)
		sector(w.d, 0, mbr.Entry{Type: 5, First: 3 + n + more, Count: 20}, mbr.Entry{Type: 12, First: 3, Count: n})
		sector(w.d, 3+n+more)
		return w
	},
	func(volume []byte, more int64) *world { // within, up to the end of that part
		n := int64(len(volume)) / 512
		w := &world{from: 30, count: n, most: n + more}
		w.d = pattern(int(512*(30+n+more+50)), 4)
		sector(w.d, 0, mbr.Entry{Type: 7, First: 1, Count: 9}, mbr.Entry{Type: 15, First: 12, Count: 18 + n + more})
		sector(w.d, 12, mbr.Entry{Type: 1, First: 2, Count: 6}, mbr.Entry{Type: 5, First: 10, Count: 3})
		sector(w.d, 22, mbr.Entry{Type: 12, First: 8, Count: n})
		return w
	},
	func(volume []byte, more int64) *world { // within, up to a sector with entries
		n := int64(len(volume)) / 512
		w := &world{from: 13, count: n, most: n + more}
		w.d = pattern(int(512*(13+n+more+50)), 5)
		sector(w.d, 0, mbr.Entry{Type: 5, First: 12, Count: 1 + n + more + 10})
		sector(w.d, 12, mbr.Entry{Type: 12, First: 1, Count: n}, mbr.Entry{Type: 5, First: 1 + n + more, Count: 1})
		sector(w.d, 13+n+more)
		return w
	},
	func(volume []byte, more int64) *world { // a GPT, up to its last sector for partitions
		n := int64(len(volume)) / 512
		w := &world{from: 20, count: n, most: n + more}
		w.d = pattern(int(512*(20+n+more+9)), 6)
		table(w.d, 5, 20+n+more-1, [2]int64{20, n}, [2]int64{6, 9})
		return w
	},
}

// made: a disk, by a way, with a volume.
func made(way int, volume []byte, kind int, files []rawguest.File, more int64) *world {
	if odd := len(volume) % 512; odd != 0 {
		volume = longer(volume, int64(len(volume)+512-odd))
	}
	w := ways[way](volume, more)
	copy(w.d[512*w.from:], volume)
	w.kind, w.files = kind, files
	return w
}

// lastByWords: what Last must answer, by hand, of a disk whose partition holds what it must.
func (w *world) lastByWords(sectors int64) (l []resize.Piece, e api.Errno) {
	if sectors < 1 {
		return nil, api.ErrSmall
	}
	if sectors > 32768 || sectors > w.most {
		return nil, api.ErrRange
	}
	volume := w.d[512*w.from : 512*(w.from+w.count)]
	if w.kind == resize.Fat {
		l, e = fatByWords(volume, sectors)
	} else {
		l, e = extByWords(volume, sectors/2)
	}
	if e != api.OK {
		return nil, e
	}
	for i := range l {
		l[i].At += 512 * w.from
	}
	m, e := parts.Parse(bare(w.d))
	if e != api.OK {
		panic(e)
	}
	p, _ := m.Last()
	table, e := m.Resize(bare(w.d), p, 512*(w.from+sectors))
	if e != api.OK {
		panic(e)
	}
	for _, x := range table {
		l = append(l, resize.Piece(x))
	}
	return l, api.OK
}

// to: Last's answer, held against the plain one; what is written then is right, and the
// same again, if it is made of the old size again. The error.
func (w *world) to(t *testing.T, sectors int64) api.Errno {
	t.Helper()
	ahead := look(w.d)
	want, e := w.lastByWords(sectors)
	l, got := resize.Last(bare(w.d), sectors)
	if got != e || !samePieces(l, want) {
		t.Fatalf("to %d sectors: error %d, not %d; %v, not %v", sectors, got, e, places(l), places(want))
	}
	if look(w.d) != ahead {
		t.Fatal("what was handed in is changed")
	}
	if e != api.OK {
		return e
	}
	now := *w
	now.d, now.count = written(t, w.d, l), sectors
	now.is(t, w)
	back, e := now.lastByWords(w.count)
	if e != api.OK {
		return api.OK // it held a volume that was smaller than what can be made
	}
	again := *w
	again.d = written(t, now.d, back)
	again.is(t, w)
	return api.OK
}

// is: a disk's last partition is of its size, and holds what it must; all else is as on
// another one.
func (w *world) is(t *testing.T, was *world) {
	t.Helper()
	a, e := parts.Parse(bare(was.d))
	ok(t, e)
	b, e := parts.Parse(bare(w.d))
	ok(t, e)
	p, _ := b.Last()
	if p.Ext != (api.Ext{From: 512 * w.from, To: 512 * (w.from + w.count)}) || !slices.Equal(a.Held, b.Held) || len(a.Parts) != len(b.Parts) {
		t.Fatal("another map:", p, b)
	}
	a.Parts[len(a.Parts)-1].Ext.To = p.Ext.To
	if !slices.Equal(a.Parts, b.Parts) {
		t.Fatal("other partitions:", b.Parts)
	}
	elseWhere := []api.Ext{{To: p.Ext.From}, {From: p.Ext.To, To: int64(len(w.d))}}
	for _, x := range elseWhere {
		for at := x.From; at < x.To; at++ {
			if w.d[at] != was.d[at] && !a.Held.Has(at) && (at < 512*was.from || at >= 512*(was.from+was.most)) {
				t.Fatal("a byte elsewhere is written:", at)
			}
		}
	}
	volume := w.d[p.Ext.From:p.Ext.To]
	holds(t, "the last one", volume, w.kind, w.files)
	if w.kind == resize.Fat && get32(volume, 32) != w.count && w.count != was.count || w.kind == resize.Ext && get32(volume, 1024+4) != w.count/2 && w.count != was.count {
		t.Fatal("the volume isn't of the partition's size")
	}
}

// fatVolume, extVolume: volumes for the disks.
func fatVolume() ([]byte, []rawguest.File) {
	files := []rawguest.File{{Name: "A.X", Data: pattern(3000, 1)}, {Name: "B", Folder: true, Inside: []rawguest.File{{Name: "C", Data: pattern(700, 2)}}}}
	f := rawguest.NewFat(rawguest.Fat{Each: 2, Ahead: 4, Tables: 2, Long: 1, Sectors: 80, Info: 1, Copy: 2, Next: 9}, pattern(81*512, 4))
	return f.Hold(files...).Bytes(), files
}

func extVolume() ([]byte, []rawguest.File) {
	files := []rawguest.File{{Name: "a.x", Data: pattern(3000, 1)}, {Name: "b", Folder: true, Inside: []rawguest.File{{Name: "c", Data: pattern(14000, 2)}}}}
	x := rawguest.NewExt(rawguest.Ext{Blocks: 90, Per: 64, Each: 16, First: 11}, pattern(90*1024+512, 4), func(int64) int64 { return 0 })
	return x.Hold(files...).Bytes(), files
}

// TestLastEachSize: each way in which a disk is laid, with each kind of volume, to each size.
func TestLastEachSize(t *testing.T) {
	t.Parallel()
	for way := range ways {
		for _, more := range []int64{0, 1, 60} {
			volume, files := fatVolume()
			w := made(way, volume, resize.Fat, files, more)
			w.is(t, w)
			can := 0
			for sectors := int64(-2); sectors < w.most+3; sectors++ {
				if e := w.to(t, sectors); e == api.OK {
					can++
				}
			}
			if can < 50 {
				t.Error("too few that can be:", way, more, can)
			}
			volume, files = extVolume()
			w = made(way, volume, resize.Ext, files, more)
			w.is(t, w)
			can = 0
			for sectors := int64(-2); sectors < w.most+3; sectors++ {
				if e := w.to(t, sectors); e == api.OK {
					can++
				}
			}
			if can < 80 {
				t.Error("too few that can be:", way, more, can)
			}
			for _, sectors := range extremes {
				w.to(t, sectors)
			}
		}
	}
}

// TestLastEdges: where it may end, and one sector more; what is told first.
func TestLastEdges(t *testing.T) {
	volume, files := fatVolume()
	for way := range ways {
		w := made(way, volume, resize.Fat, files, 30)
		for sectors, want := range map[int64]api.Errno{w.most: api.OK, w.most + 1: api.ErrRange, 0: api.ErrSmall, 1: api.ErrSmall, -1: api.ErrSmall, w.count: api.OK, math.MaxInt64: api.ErrRange, math.MaxInt64 / 512: api.ErrRange, math.MinInt64: api.ErrSmall, math.MinInt64 / 512: api.ErrSmall} {
			if e := w.to(t, sectors); e != want {
				t.Errorf("way %d, to %d sectors: error %d, not %d", way, sectors, e, want)
			}
		}
	}
	// the table of clusters has no room, nor the disk: the disk is told first
	for more, want := range map[int64]api.Errno{200: api.ErrLimit, 190: api.ErrRange} {
		w := made(0, volume, resize.Fat, files, more)
		if e := w.to(t, 280); e != want {
			t.Error(more, e)
		}
	}
	// as many sectors as there may be, and one more
	f := rawguest.NewFat(rawguest.Fat{Each: 8, Ahead: 4, Tables: 1, Long: 40, Sectors: 200, Info: 1}, make([]byte, 200*512))
	w := made(0, f.Hold().Bytes(), resize.Fat, nil, 33000)
	for sectors, want := range map[int64]api.Errno{32767: api.OK, 32768: api.OK, 32769: api.ErrRange} {
		if e := w.to(t, sectors); e != want {
			t.Error(sectors, e)
		}
	}
	// half of the sectors, rounded down
	volume, files = extVolume()
	w = made(5, volume, resize.Ext, files, 30)
	for sectors, blocks := range map[int64]int64{160: 80, 161: 80, 162: 81, 163: 81, 211: 105} {
		l, e := resize.Last(bare(w.d), sectors)
		ok(t, e)
		if v, e := ext.Open(bare(written(t, w.d, l)[512*w.from : 512*(w.from+sectors)])); e != api.OK || v.Super.Blocks != blocks {
			t.Error(sectors, e)
		}
	}
}

// TestLastAny: any volumes on any disks.
func TestLastAny(t *testing.T) {
	t.Parallel()
	can := 0
	for seed := range int64(60) {
		r := rand.New(rand.NewSource(seed))
		f, files := anyFat(r, seed)
		w := made(r.Intn(len(ways)), f.Bytes(), resize.Fat, files, r.Int63n(200))
		x, inner := anyExt(r, seed)
		v := made(r.Intn(len(ways)), x.Bytes(), resize.Ext, inner, r.Int63n(400))
		for range 12 {
			if w.to(t, r.Int63n(w.most+3)) == api.OK {
				can++
			}
			if v.to(t, r.Int63n(v.most+3)) == api.OK {
				can++
			}
		}
	}
	if can < 300 {
		t.Error("too few that can be:", can)
	}
}

// lastFails: Last answers an error, whatever is asked for, and no piece.
func lastFails(t *testing.T, what string, d api.Disk, want api.Errno) {
	t.Helper()
	for _, sectors := range append([]int64{0, 1, 5, 48, 64, 80, 100, 500}, extremes...) {
		if l, e := resize.Last(d, sectors); e != want || len(l) > 0 {
			t.Errorf("%s: to %d sectors: error %d, not %d; %d pieces", what, sectors, e, want, len(l))
		}
	}
}

// TestLastNone: disks without a right table, without a partition, with one that isn't
// known.
func TestLastNone(t *testing.T) {
	lastFails(t, "no disk", nil, api.ErrNil)
	lastFails(t, "nothing", bare(nil), api.ErrRange)
	lastFails(t, "noughts", bare(make([]byte, 8192)), api.ErrMagic)
	d := make([]byte, 100*512)
	sector(d, 0)
	lastFails(t, "no partition", bare(d), api.ErrNone)
	sector(d, 0, mbr.Entry{Type: 5, First: 10, Count: 20})
	lastFails(t, "an Inner without a right sector", bare(d), api.ErrMagic)
	sector(d, 10)
	lastFails(t, "no partition but an empty Inner", bare(d), api.ErrNone)
	sector(d, 0, mbr.Entry{Type: 5, First: 10, Count: 200})
	lastFails(t, "an Inner outside", bare(d), api.ErrRange)
	sector(d, 0, mbr.Entry{Type: 5, First: 10, Count: 20}, mbr.Entry{Type: 7, First: 29, Count: 20})
	lastFails(t, "two that have one place", bare(d), api.ErrCross)
	d = make([]byte, 100*512)
	table(d, 5, 90)
	lastFails(t, "a GPT without a partition", bare(d), api.ErrNone)
	d[99*512+60] ^= 1
	lastFails(t, "a GPT whose copy is spoilt", bare(d), api.ErrSum)
	// the last partition isn't known, one ahead of it is
	d = make([]byte, 200*512)
	volume, _ := fatVolume()
	copy(d[512:], volume)
	sector(d, 0, mbr.Entry{Type: 12, First: 1, Count: 81}, mbr.Entry{Type: 7, First: 100, Count: 60})
	lastFails(t, "noughts in a partition", bare(d), api.ErrMagic)
	copy(d[512*100:], volume[:512])
	lastFails(t, "a first sector of a longer volume", bare(d), api.ErrRange)
	copy(d[512*100:], volume[:512*60])
	put32(d[512*100:], 32, 60)
	lastFails(t, "a copy that isn't the same", bare(d), api.ErrForm)
}

// TestRefused: each read of each call may be refused, or answer too few bytes, or too
// many: then there is no piece.
func TestRefused(t *testing.T) {
	first, files := fatVolume()
	second, inner := extVolume()
	calls := []struct {
		d    []byte
		call func(d api.Disk) ([]resize.Piece, api.Errno)
	}{
		{first, func(d api.Disk) ([]resize.Piece, api.Errno) { return resize.FatTo(d, 100) }},
		{second, func(d api.Disk) ([]resize.Piece, api.Errno) { return resize.ExtTo(d, 150) }},
		{made(1, first, resize.Fat, files, 90).d, func(d api.Disk) ([]resize.Piece, api.Errno) { return resize.Last(d, 100) }},
		{made(3, second, resize.Ext, inner, 90).d, func(d api.Disk) ([]resize.Piece, api.Errno) { return resize.Last(d, 240) }},
		{made(5, first, resize.Fat, files, 90).d, func(d api.Disk) ([]resize.Piece, api.Errno) { return resize.Last(d, 100) }},
	}
	for i, c := range calls {
		count := &odd{bare: c.d, answer: func(int, int64, int64) ([]byte, api.Errno, bool) { return nil, 0, false }}
		_, e := c.call(count)
		ok(t, e)
		if count.reads < 7 {
			t.Fatal(i, count.reads)
		}
		for n := 1; n <= count.reads; n++ {
			answers := func(what string, want api.Errno, answer func(b []byte) ([]byte, api.Errno)) {
				disk := &odd{bare: c.d, answer: func(read int, at, size int64) ([]byte, api.Errno, bool) {
					b, e := answer(bytes.Clone(c.d[at : at+size]))
					return b, e, read == n
				}}
				l, e := c.call(disk)
				if e == api.OK || len(l) > 0 || want != api.OK && e != want {
					t.Errorf("call %d, read %d, %s: error %d, %d pieces", i, n, what, e, len(l))
				}
			}
			answers("refused", api.ErrIO, func(b []byte) ([]byte, api.Errno) { return b, api.ErrIO })
			if i < 2 { // else another tree is asked
				answers("another error", api.ErrState, func(b []byte) ([]byte, api.Errno) { return b, api.ErrState })
				answers("too few", api.ErrRange, func(b []byte) ([]byte, api.Errno) { return b[1:], api.OK })
			}
			if i == 3 {
				continue // it isn't of the first kind anyway
			}
			answers("none", api.OK, func(b []byte) ([]byte, api.Errno) { return nil, api.OK })
			answers("too many", api.OK, func(b []byte) ([]byte, api.Errno) { return append(b, 0), api.OK })
		}
	}
}

// TestPiecesAreNew: who writes into a piece changes neither the disk nor another piece.
func TestPiecesAreNew(t *testing.T) {
	first, files := fatVolume()
	second, inner := extVolume()
	var lists [][]resize.Piece
	var disks [][]byte
	add := func(d []byte, l []resize.Piece, e api.Errno) {
		ok(t, e)
		lists, disks = append(lists, l), append(disks, d)
	}
	l, e := resize.FatTo(bare(first), 100)
	add(first, l, e)
	l, e = resize.ExtTo(bare(second), 300)
	add(second, l, e)
	for way := range ways {
		w := made(way, second, resize.Ext, inner, 400)
		l, e = resize.Last(bare(w.d), 500)
		add(w.d, l, e)
		w = made(way, first, resize.Fat, files, 40)
		l, e = resize.Last(bare(w.d), 100)
		add(w.d, l, e)
	}
	for i, l := range lists {
		ahead := look(disks[i])
		for j := range l {
			var others []uint64
			for k := range l {
				others = append(others, look(l[k].B))
			}
			for at := range l[j].B {
				l[j].B[at] ^= 255
			}
			_ = append(l[j].B, 1, 2, 3)
			for k := range l {
				if k != j && look(l[k].B) != others[k] {
					t.Fatal("two pieces have one place", i, j, k)
				}
			}
		}
		if look(disks[i]) != ahead {
			t.Fatal("the disk is changed", i)
		}
	}
}

// TestAgain: the same answer, however often it is asked for.
func TestAgain(t *testing.T) {
	volume, files := extVolume()
	w := made(5, volume, resize.Ext, files, 300)
	a, e := resize.Last(bare(w.d), 400)
	ok(t, e)
	_, _ = resize.Last(bare(w.d), 20)
	b, e := resize.Last(parts.Mem(w.d), 400)
	ok(t, e)
	if !samePieces(a, b) {
		t.Error("another answer")
	}
}
