package ext_test

import (
	"bytes"
	"math"
	"slices"
	"testing"

	"fettle/api"
	"fettle/ext"
	"fettle/extent"
)

func TestExample(t *testing.T) {
	d, e := ext.Make(128, 128, 16)
	ok(t, e)
	v, e := opened(t, "made", d)
	ok(t, e)
	want := ext.Super{Inodes: 16, Blocks: 128, FreeBlocks: 120, FreeInodes: 6, Per: 128, Each: 16, First: 11, Types: true}
	if v.Super != want || v.Groups() != 1 || v.Table() != 2 || !slices.Equal(v.Space(), extent.Set{{From: 8 * 1024, To: 128 * 1024}}) {
		t.Errorf("%+v", v)
	}
	if !slices.Equal(v.Rows, []ext.Row{{Blocks: 3, Inodes: 4, Table: 5, FreeBlocks: 120, FreeInodes: 6, Folders: 1}}) {
		t.Errorf("%+v", v.Rows)
	}
	x, e := v.Node(ext.Root)
	if e != api.OK || x != (ext.Inode{Mode: 0x41ED, Size: 1024, Count: 2, At: [15]int64{7}}) {
		t.Error(x, e)
	}
	root := slices.Concat([]byte{2, 0, 0, 0, 12, 0, 1, 2, '.', 0, 0, 0, 2, 0, 0, 0, 1012 % 256, 1012 / 256, 2, 2, '.', '.'}, make([]byte, 1002))
	if b, e := v.Read(7); e != api.OK || !bytes.Equal(b, root) {
		t.Error(b, e)
	}
	for n, want := range map[int64]api.Errno{1: api.OK, 3: api.OK, 10: api.OK, 11: api.ErrState, 16: api.ErrState, 17: api.ErrRange} {
		if x, e := v.Node(n); e != want || x != (ext.Inode{}) {
			t.Error(n, x, e)
		}
	}
}

// madeByWords: what Make must answer of numbers that may be.
func madeByWords(blocks, per, each int64) []byte {
	d := make([]byte, 1024*blocks)
	l := groups(blocks, per)
	table := each / 8
	s := ext.Super{Inodes: int64(len(l)) * each, Blocks: blocks, Per: per, Each: each, First: 11, Types: true}
	rows := make([]byte, 1024)
	for g, x := range l {
		r := ext.Row{Blocks: x.from + 2, Inodes: x.from + 3, Table: x.from + 4, FreeBlocks: x.to - x.from - table - 4, FreeInodes: each}
		usedBlocks, usedNodes := table+4, int64(0)
		if g == 0 {
			r.FreeBlocks, r.FreeInodes, r.Folders = r.FreeBlocks-1, r.FreeInodes-10, 1
			usedBlocks, usedNodes = usedBlocks+1, 10
		}
		layRow(r, rows[32*g:])
		s.FreeBlocks, s.FreeInodes = s.FreeBlocks+r.FreeBlocks, s.FreeInodes+r.FreeInodes
		for i := range int64(8192) {
			if i < usedBlocks || i >= x.to-x.from {
				d[1024*(x.from+2)+i/8] |= 1 << (i % 8)
			}
			if i < usedNodes || i >= each {
				d[1024*(x.from+3)+i/8] |= 1 << (i % 8)
			}
		}
	}
	for _, x := range l {
		lay(s, d[1024*x.from:1024*x.from+1024])
		copy(d[1024*x.from+1024:], rows)
	}
	root := 5 + table
	inode := d[1024*5+128:]
	put16(inode, 0, 0x41ED)
	put32(inode, 4, 1024)
	put16(inode, 26, 2)
	put32(inode, 28, 2)
	put32(inode, 40, root)
	b := d[1024*root : 1024*root+1024]
	copy(b, []byte{2, 0, 0, 0, 12, 0, 1, 2, '.'})
	copy(b[12:], []byte{2, 0, 0, 0, 0xF4, 3, 2, 2, '.', '.'})
	return d
}

// makeErrorByWords: what error Make must answer.
func makeErrorByWords(blocks, per, each int64) api.Errno {
	if per < 64 || per > 8192 || each < 16 || each > 8192 || blocks < 8 || blocks > 16384 {
		return api.ErrRange
	}
	l := groups(blocks, per)
	if e := checkByWords(ext.Super{Inodes: int64(len(l)) * each, Blocks: blocks, Per: per, Each: each, First: 11}); e != api.OK {
		return e
	}
	if last := l[len(l)-1]; last.to-last.from < each/8+6 {
		return api.ErrSmall
	}
	return api.OK
}

// made: Make's answer, held against the plain one; a volume that is made is opened.
func made(t *testing.T, blocks, per, each int64) api.Errno {
	t.Helper()
	d, e := ext.Make(blocks, per, each)
	want := makeErrorByWords(blocks, per, each)
	if e != want || want != api.OK && len(d) > 0 {
		t.Fatalf("%d, %d, %d: error %d, not %d", blocks, per, each, e, want)
	}
	if want != api.OK {
		return want
	}
	if !bytes.Equal(d, madeByWords(blocks, per, each)) {
		t.Fatalf("%d, %d, %d: other bytes", blocks, per, each)
	}
	if _, e := opened(t, "made", d); e != api.OK {
		t.Fatalf("%d, %d, %d: opened: %d", blocks, per, each, e)
	}
	return e
}

func TestMake(t *testing.T) {
	met := map[api.Errno]int{}
	for _, per := range []int64{64, 72, 128} {
		for _, each := range []int64{16, 24, 120, 464, 472, 480} {
			for blocks := int64(6); blocks < 300; blocks++ {
				met[made(t, blocks, per, each)]++
			}
		}
	}
	sizes := append([]int64{15, 16, 17, 20, 56, 62, 65, 66, 100, 464, 472, 480, 8184, 8191, 8192, 8193, 8200, 16383, 16384, 16385}, extremes...)
	for _, blocks := range sizes {
		for _, per := range sizes {
			for _, each := range sizes {
				met[made(t, blocks, per, each)]++
			}
		}
	}
	if met[api.OK] < 1000 || met[api.ErrSmall] < 100 || met[api.ErrForm] < 100 || met[api.ErrLimit] < 10 || met[api.ErrRange] < 1000 {
		t.Error(met)
	}
}

// TestMakeEdges: the least that may be, and one less; the first error that applies.
func TestMakeEdges(t *testing.T) {
	for i, c := range []struct {
		blocks, per, each int64
		want              api.Errno
	}{
		{9, 64, 16, api.OK},
		{8, 64, 16, api.ErrSmall},
		{7, 64, 16, api.ErrRange},
		{1 + 64, 64, 464, api.OK}, // a group that its inodes fill, but for the least
		{1 + 64, 64, 472, api.ErrSmall},
		{1 + 64, 64, 480, api.ErrForm},
		{1 + 63, 64, 464, api.ErrSmall},
		{1 + 2*64, 64, 472, api.ErrSmall},
		{1 + 64 + 8, 64, 16, api.OK},
		{1 + 64 + 7, 64, 16, api.ErrSmall},
		{1 + 64 + 1, 64, 16, api.ErrSmall},
		{1 + 32*64, 64, 16, api.OK},
		{1 + 32*64 + 8, 64, 16, api.ErrLimit},
		{1 + 32*64 + 1, 64, 16, api.ErrLimit}, // ahead of ErrSmall
		{16384, 8192, 8192, api.OK},
		{16385, 8192, 8192, api.ErrRange},
		{16384, 8192, 8193, api.ErrRange},
		{16384, 8193, 8192, api.ErrRange},
		{9, 63, 16, api.ErrRange},
		{9, 65, 16, api.ErrForm},
		{9, 64, 15, api.ErrRange},
		{9, 64, 17, api.ErrForm},
		{8, 64, 64, api.ErrSmall}, // its fixed blocks are more than it has
		{8, 1032, 8192, api.ErrSmall},
		{1 + 1032, 1032, 8192, api.OK},
		{math.MaxInt64, 64, 16, api.ErrRange},
	} {
		if e := made(t, c.blocks, c.per, c.each); e != c.want {
			t.Errorf("%d: error %d, not %d", i, e, c.want)
		}
	}
}

// TestMadeFixed: what is free and what is fixed are apart.
func TestMadeFixed(t *testing.T) {
	d, e := ext.Make(1+2*64+30, 64, 32)
	ok(t, e)
	v, e := opened(t, "made", d)
	ok(t, e)
	var taken []api.Ext
	for g := range v.Groups() {
		for _, n := range v.Fixed(g) {
			taken = append(taken, api.Ext{From: 1024 * n, To: 1024*n + 1024})
		}
	}
	if len(taken) != 3*8 || !extent.Apart(slices.Concat(taken, v.Space())...) {
		t.Error(taken, v.Space())
	}
	if v.Space().Bytes() != 1024*(158-3*8-1) || v.FreeBlocks != 158-3*8-1 || v.FreeInodes != 3*32-10 {
		t.Error(v.Super)
	}
	for _, n := range []int64{65, 129} { // copies of blocks 1 and 2
		if !bytes.Equal(d[1024*n:1024*n+2048], d[1024:3072]) {
			t.Error("no copy", n)
		}
	}
}
