package ext_test

import (
	"bytes"
	"encoding/binary"
	"math/rand"
	"slices"
	"testing"

	"fettle/api"
	"fettle/ext"
	"fettle/extent"
)

// The signatures that the document lists; a volume has its super's calls.
var (
	_ func(ext.Super) int64                                     = ext.Super.Groups
	_ func(ext.Super) int64                                     = ext.Super.Table
	_ func(ext.Super, int64) (int64, int64)                     = ext.Super.Group
	_ func(ext.Super) api.Errno                                 = ext.Super.Check
	_ func([]byte) (ext.Super, api.Errno)                       = ext.Parse
	_ func(ext.Super, []byte) api.Errno                         = ext.Super.Put
	_ func([]byte, int) (ext.Row, api.Errno)                    = ext.ParseRow
	_ func(ext.Row, []byte, int) api.Errno                      = ext.Row.Put
	_ func(ext.Map, int64) bool                                 = ext.Map.Has
	_ func(ext.Map, int64, bool)                                = ext.Map.Set
	_ func(ext.Map, int64) int64                                = ext.Map.Count
	_ func([]byte, int) (ext.Inode, api.Errno)                  = ext.ParseInode
	_ func(ext.Inode) int64                                     = ext.Inode.Kind
	_ func(api.Disk) (*ext.Volume, api.Errno)                   = ext.Open
	_ func(*ext.Volume, int64) ([]byte, api.Errno)              = (*ext.Volume).Read
	_ func(*ext.Volume, int64) []int64                          = (*ext.Volume).Fixed
	_ func(*ext.Volume, int64) bool                             = (*ext.Volume).Used
	_ func(*ext.Volume, int64) (ext.Inode, api.Errno)           = (*ext.Volume).Node
	_ func(*ext.Volume) extent.Set                              = (*ext.Volume).Space
	_ func(blocks, per, each int64) ([]byte, api.Errno)         = ext.Make
	_ func(*ext.Volume) int64                                   = (*ext.Volume).Groups
	_ func(*ext.Volume, int64) (int64, int64)                   = (*ext.Volume).Group
	_ func(*ext.Volume) api.Errno                               = (*ext.Volume).Check
	_                                                           = ext.Volume{Super: ext.Super{}, Rows: []ext.Row{}, Blocks: []ext.Map{}, Nodes: []ext.Map{}}
	_ [15]int64                                                 = ext.Inode{Mode: int64(1), Size: int64(1), Count: int64(1)}.At
	_ [ext.Block]bool                                           = [1024]bool{}
	_ [ext.InodeSize]bool                                       = [128]bool{}
	_ [ext.RowSize]bool                                         = [32]bool{}
	_ [ext.Root]bool                                            = [2]bool{}
	_ [ext.MaxGroups]bool                                       = [32]bool{}
	_ [ext.IsFolder + ext.IsFile + ext.IsLink - 0x8000]struct{} = [0x4000 + 0xA000]struct{}{}
)

// bare is a disk that hands out its own bytes, with all room behind them: who
// writes into them is found out.
type bare []byte

func (m bare) Size() int64 { return int64(len(m)) }

func (m bare) Read(at, n int64) ([]byte, api.Errno) {
	if at < 0 || n < 0 || n > int64(len(m))-at {
		return nil, api.ErrRange
	}
	return m[at : at+n], api.OK
}

// odd is a disk that answers as it is told, and counts its reads.
type odd struct {
	bare
	reads  int
	answer func(read int, at, n int64) ([]byte, api.Errno, bool)
}

func (o *odd) Read(at, n int64) ([]byte, api.Errno) {
	o.reads++
	if b, e, told := o.answer(o.reads, at, n); told {
		return b, e
	}
	return o.bare.Read(at, n)
}

// refusing: a disk whose n-th read is refused, with bytes beside the error.
func refusing(d []byte, n int, e api.Errno) *odd {
	return &odd{bare: d, answer: func(read int, at, size int64) ([]byte, api.Errno, bool) {
		return make([]byte, size), e, read == n
	}}
}

func ok(t *testing.T, e api.Errno) {
	t.Helper()
	if e != api.OK {
		t.Fatal("error", e)
	}
}

func pattern(n int, seed int64) []byte {
	b := make([]byte, n)
	rand.New(rand.NewSource(seed)).Read(b)
	return b
}

func put16(b []byte, at int, v int64) { binary.LittleEndian.PutUint16(b[at:], uint16(v)) }
func put32(b []byte, at int, v int64) { binary.LittleEndian.PutUint32(b[at:], uint32(v)) }
func get16(b []byte, at int) int64    { return int64(binary.LittleEndian.Uint16(b[at:])) }
func get32(b []byte, at int) int64    { return int64(binary.LittleEndian.Uint32(b[at:])) }

// bit: is one set, the lowest of each byte first?
func bit(b []byte, i int64) bool { return b[i/8]&(1<<(i%8)) != 0 }

// group is one by the chapter's words: its blocks, from the first on, up to the
// last and one more.
type group struct{ from, to int64 }

// groups: a volume's groups, laid one behind the other till all blocks are in one.
func groups(blocks, per int64) (l []group) {
	for from := int64(1); len(l) == 0 || from < blocks; from += per {
		l = append(l, group{from, min(from+per, blocks)})
	}
	return l
}

// checkByWords: what Check must answer.
func checkByWords(s ext.Super) api.Errno {
	if s.Per < 64 || s.Per > 8192 || s.Each < 8 || s.Each > 8192 || s.Per%8 != 0 || s.Each%8 != 0 || s.Blocks < 8 || s.Blocks > 16384 {
		return api.ErrForm
	}
	n := int64(len(groups(s.Blocks, s.Per)))
	if n > 32 {
		return api.ErrLimit
	}
	for _, wrong := range []bool{
		s.Inodes != n*s.Each,
		8*(s.Per-5) < s.Each,
		s.First < 3 || s.First > s.Each,
		s.FreeBlocks < 0 || s.FreeBlocks > s.Blocks,
		s.FreeInodes < 0 || s.FreeInodes > s.Inodes,
	} {
		if wrong {
			return api.ErrForm
		}
	}
	return api.OK
}

// parseByWords: what Parse must answer.
func parseByWords(b []byte) (ext.Super, api.Errno) {
	if len(b) != 1024 {
		return ext.Super{}, api.ErrRange
	}
	if b[56] != 0x53 || b[57] != 0xEF {
		return ext.Super{}, api.ErrMagic
	}
	if get32(b, 20) != 1 || get32(b, 24) != 0 || get32(b, 76) != 1 || get16(b, 88) != 128 || get32(b, 100) != 0 || get32(b, 96)&^2 != 0 {
		return ext.Super{}, api.ErrForm
	}
	s := ext.Super{Inodes: get32(b, 0), Blocks: get32(b, 4), FreeBlocks: get32(b, 12), FreeInodes: get32(b, 16), Per: get32(b, 32), Each: get32(b, 40), First: get32(b, 84), Types: b[96] == 2}
	if e := checkByWords(s); e != api.OK {
		return ext.Super{}, e
	}
	return s, api.OK
}

// lay: a super's fields are written into a block, right or not, by hand.
func lay(s ext.Super, b []byte) {
	for at, v := range map[int]int64{0: s.Inodes, 4: s.Blocks, 12: s.FreeBlocks, 16: s.FreeInodes, 20: 1, 24: 0, 32: s.Per, 36: s.Per, 40: s.Each, 76: 1, 84: s.First, 96: 0, 100: 0} {
		put32(b, at, v)
	}
	put16(b, 56, 0xEF53)
	put16(b, 88, 128)
	if s.Types {
		b[96] = 2
	}
}

// layRow: a row's fields, by hand.
func layRow(r ext.Row, b []byte) {
	put32(b, 0, r.Blocks)
	put32(b, 4, r.Inodes)
	put32(b, 8, r.Table)
	put16(b, 12, r.FreeBlocks)
	put16(b, 14, r.FreeInodes)
	put16(b, 16, r.Folders)
}

// parted is a volume by the chapter's words.
type parted struct {
	super  ext.Super
	rows   []ext.Row
	fixed  [][]int64
	blocks [][]byte
	nodes  [][]byte
}

// openByWords: what Open must answer.
func openByWords(d []byte) (v parted, e api.Errno) {
	if len(d) < 2048 {
		return v, api.ErrRange
	}
	if v.super, e = parseByWords(d[1024:2048]); e != api.OK {
		return v, e
	}
	s := v.super
	if 1024*s.Blocks > int64(len(d)) {
		return v, api.ErrRange
	}
	freeBlocks, freeNodes := int64(0), int64(0)
	for g, x := range groups(s.Blocks, s.Per) {
		b := d[2048+32*g : 2080+32*g]
		r := ext.Row{Blocks: get32(b, 0), Inodes: get32(b, 4), Table: get32(b, 8), FreeBlocks: get16(b, 12), FreeInodes: get16(b, 14), Folders: get16(b, 16)}
		fixed := []int64{x.from, x.from + 1, r.Blocks, r.Inodes}
		for n := r.Table; 8*(n-r.Table) < s.Each; n++ {
			fixed = append(fixed, n)
		}
		times := map[int64]int{}
		for _, n := range fixed {
			if n < x.from || n >= x.to {
				return v, api.ErrRange
			}
			times[n]++
		}
		if len(times) < len(fixed) {
			return v, api.ErrCross
		}
		blocks, nodes := d[1024*r.Blocks:1024*r.Blocks+1024], d[1024*r.Inodes:1024*r.Inodes+1024]
		left := r.FreeBlocks
		for n := x.from; n < x.from+s.Per; n++ {
			if set := bit(blocks, n-x.from); !set && (times[n] > 0 || n >= x.to) {
				return v, api.ErrForm
			} else if !set {
				left--
			}
		}
		nodesLeft := r.FreeInodes
		for i := range s.Each {
			if !bit(nodes, i) {
				nodesLeft--
			}
		}
		if left != 0 || nodesLeft != 0 {
			return v, api.ErrCount
		}
		freeBlocks, freeNodes = freeBlocks+r.FreeBlocks, freeNodes+r.FreeInodes
		v.rows, v.fixed = append(v.rows, r), append(v.fixed, fixed)
		v.blocks, v.nodes = append(v.blocks, blocks), append(v.nodes, nodes)
	}
	if freeBlocks != s.FreeBlocks || freeNodes != s.FreeInodes {
		return v, api.ErrCount
	}
	return v, api.OK
}

// opened: Open's answer, held against the plain one; so is all that the volume says
// of its blocks. The disk stays as it is.
func opened(t *testing.T, what string, d []byte) (*ext.Volume, api.Errno) {
	t.Helper()
	ahead := bytes.Clone(d)
	want, e := openByWords(d)
	v, got := ext.Open(bare(d))
	if got != e || (v == nil) != (e != api.OK) {
		t.Fatalf("%s: Open: %d, not %d; %v", what, got, e, v)
	}
	if v != nil {
		told(t, what, v, want)
	}
	if !bytes.Equal(d, ahead) {
		t.Fatalf("%s: what was handed in is changed", what)
	}
	return v, e
}

// told: a volume's fields, and what it says is fixed, used and free.
func told(t *testing.T, what string, v *ext.Volume, want parted) {
	t.Helper()
	if v.Super != want.super || !slices.Equal(v.Rows, want.rows) {
		t.Fatalf("%s: %+v %+v, not %+v %+v", what, v.Super, v.Rows, want.super, want.rows)
	}
	same := func(m ext.Map, b []byte) bool { return bytes.Equal(m, b) }
	if !slices.EqualFunc(v.Blocks, want.blocks, same) || !slices.EqualFunc(v.Nodes, want.nodes, same) {
		t.Fatalf("%s: other maps", what)
	}
	var free extent.Set
	for g, x := range groups(want.super.Blocks, want.super.Per) {
		if !slices.Equal(v.Fixed(int64(g)), want.fixed[g]) {
			t.Fatalf("%s: Fixed(%d): %v, not %v", what, g, v.Fixed(int64(g)), want.fixed[g])
		}
		for n := x.from; n < x.to; n++ {
			used := bit(want.blocks[g], n-x.from)
			if v.Used(n) != used || !used && slices.Contains(want.fixed[g], n) {
				t.Fatalf("%s: Used(%d): %v", what, n, v.Used(n))
			}
			if last := len(free) - 1; !used && last >= 0 && free[last].To == 1024*n {
				free[last].To += 1024
			} else if !used {
				free = append(free, api.Ext{From: 1024 * n, To: 1024*n + 1024})
			}
		}
	}
	if got := v.Space(); !slices.Equal(got, free) || got.Bytes() != 1024*want.super.FreeBlocks {
		t.Fatalf("%s: Space: %v, not %v", what, got, free)
	}
}

// wants: Open answers an error, and so does the plain one.
func wants(t *testing.T, what string, d []byte, want api.Errno) {
	t.Helper()
	if _, e := opened(t, what, d); e != want {
		t.Errorf("%s: error %d, not %d", what, e, want)
	}
}

// world is a volume that is laid by hand: where its groups' fixed blocks are, and
// what its maps say.
type world struct {
	ext.Super
	rows   []ext.Row
	blocks []ext.Map
	nodes  []ext.Map
	d      []byte
}

// newWorld: a volume of any bytes; its fixed blocks stand anywhere in their groups,
// any other blocks and inodes are used. (So many blocks of each group are needed: 4
// and those of its inodes.)
func newWorld(r *rand.Rand, blocks, per, each int64) *world {
	w := &world{d: pattern(int(1024*blocks)+r.Intn(1500), r.Int63())}
	l := groups(blocks, per)
	w.Super = ext.Super{Inodes: int64(len(l)) * each, Blocks: blocks, Per: per, Each: each, First: 3 + r.Int63n(each-2), Types: r.Intn(2) == 0}
	for _, x := range l {
		size, table := x.to-x.from, each/8
		at := 2 + r.Int63n(size-table-1) // of the inodes
		var left []int64
		for i := int64(2); i < size; i++ {
			if i < at || i >= at+table {
				left = append(left, i)
			}
		}
		r.Shuffle(len(left), func(i, j int) { left[i], left[j] = left[j], left[i] })
		w.rows = append(w.rows, ext.Row{Blocks: x.from + left[0], Inodes: x.from + left[1], Table: x.from + at, Folders: r.Int63n(65536)})
		m, n := ext.Map(pattern(1024, r.Int63())), ext.Map(pattern(1024, r.Int63()))
		for i := range per {
			if i < 2 || i == left[0] || i == left[1] || i >= at && i < at+table || i >= size {
				m[i/8] |= 1 << (i % 8)
			}
		}
		w.blocks, w.nodes = append(w.blocks, m), append(w.nodes, n)
	}
	return w
}

// disk: the volume's bytes: all counts are written now, as the maps say.
func (w *world) disk() []byte {
	w.FreeBlocks, w.FreeInodes = 0, 0
	for g := range w.rows {
		r := &w.rows[g]
		r.FreeBlocks, r.FreeInodes = 0, 0
		for i := range w.Per {
			if !bit(w.blocks[g], i) {
				r.FreeBlocks++
			}
		}
		for i := range w.Each {
			if !bit(w.nodes[g], i) {
				r.FreeInodes++
			}
		}
		w.FreeBlocks, w.FreeInodes = w.FreeBlocks+r.FreeBlocks, w.FreeInodes+r.FreeInodes
		layRow(*r, w.d[2048+32*g:])
		copy(w.d[1024*r.Blocks:], w.blocks[g])
		copy(w.d[1024*r.Inodes:], w.nodes[g])
	}
	lay(w.Super, w.d[1024:2048])
	return bytes.Clone(w.d)
}

// anyWorld: a small volume, of one group or a few, with the last one of any size.
func anyWorld(r *rand.Rand) *world {
	per, each := 64+8*r.Int63n(4), 8+8*r.Int63n(6)
	least := 4 + each/8
	blocks := 1 + per*r.Int63n(4) + least + r.Int63n(per-least+1)
	return newWorld(r, max(blocks, 8), per, each)
}

// usual: a volume of three groups, of 64, 64 and 21 blocks, 24 inodes each.
func usual() *world {
	return newWorld(rand.New(rand.NewSource(7)), 150, 64, 24)
}
