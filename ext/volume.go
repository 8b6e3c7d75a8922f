package ext

import (
	"slices"

	"fettle/api"
	"fettle/extent"
)

// The blocks that say what a volume is: its super's, its rows'.
const (
	superBlock = 1
	rowsBlock  = 2
)

// Volume is a partition: what its first block says, the groups' rows, their maps.
type Volume struct {
	Super
	Rows   []Row
	Blocks []Map
	Nodes  []Map

	disk api.Disk // what its blocks are read from
}

// read: a block of a disk, as new memory. A disk that answers other bytes than it
// was asked for hasn't got them.
func read(d api.Disk, n int64) ([]byte, api.Errno) {
	b, e := d.Read(n*Block, Block)
	if e != api.OK {
		return nil, e
	}
	if len(b) != Block {
		return nil, api.ErrRange
	}
	return slices.Clone(b), api.OK
}

// Open: the volume of a partition; all is as it must be, but that files aren't looked at.
func Open(d api.Disk) (*Volume, api.Errno) {
	if d == nil {
		return nil, api.ErrNil
	}
	s, e := openSuper(d)
	if e != api.OK {
		return nil, e
	}
	rows, e := read(d, rowsBlock)
	if e != api.OK {
		return nil, e
	}
	v := &Volume{Super: s, disk: d}
	e = s.through(func(g int64) api.Errno {
		row, e := ParseRow(rows, int(g)*RowSize)
		if e != api.OK {
			return e
		}
		return v.openGroup(g, row)
	})
	if e != api.OK {
		return nil, e
	}
	if !v.summed() {
		return nil, api.ErrCount
	}
	return v, api.OK
}

// openSuper: what a disk's super says, of blocks that the disk has.
func openSuper(d api.Disk) (Super, api.Errno) {
	b, e := read(d, superBlock)
	if e != api.OK {
		return Super{}, e
	}
	s, e := Parse(b)
	if e != api.OK {
		return Super{}, e
	}
	if s.Blocks > d.Size()/Block {
		return Super{}, api.ErrRange
	}
	return s, api.OK
}

// openGroup: the next group's row and maps become the volume's, if all is right of
// them.
func (v *Volume) openGroup(g int64, row Row) api.Errno {
	v.Rows = append(v.Rows, row)
	fixed := v.Fixed(g)
	from, to := v.Group(g)
	if slices.ContainsFunc(fixed, func(n int64) bool { return n < from || n >= to }) {
		return api.ErrRange
	}
	if !differ(fixed) {
		return api.ErrCross
	}
	blocks, e := v.openMap(row.Blocks)
	if e != api.OK {
		return e
	}
	if slices.ContainsFunc(fixed, func(n int64) bool { return !blocks.Has(n - from) }) || !blocks.full(to-from, v.Per) {
		return api.ErrForm
	}
	nodes, e := v.openMap(row.Inodes)
	if e != api.OK {
		return e
	}
	if blocks.Count(v.Per) != row.FreeBlocks || nodes.Count(v.Each) != row.FreeInodes {
		return api.ErrCount
	}
	v.Blocks = append(v.Blocks, blocks)
	v.Nodes = append(v.Nodes, nodes)
	return api.OK
}

// openMap: the map that a block holds.
func (v *Volume) openMap(n int64) (Map, api.Errno) {
	b, e := v.Read(n)
	return Map(b), e
}

// differ: are no two blocks one?
func differ(blocks []int64) bool {
	sorted := slices.Clone(blocks)
	slices.Sort(sorted)
	return len(slices.Compact(sorted)) == len(blocks)
}

// full: are all bits from one on, up to another, set?
func (m Map) full(from, to int64) bool {
	for i := from; i < to; i++ {
		if !m.Has(i) {
			return false
		}
	}
	return true
}

// summed: are the super's counts those of all groups together?
func (v *Volume) summed() bool {
	blocks, inodes := int64(0), int64(0)
	for _, r := range v.Rows {
		blocks += r.FreeBlocks
		inodes += r.FreeInodes
	}
	return blocks == v.FreeBlocks && inodes == v.FreeInodes
}

// Read: a block.
func (v *Volume) Read(n int64) ([]byte, api.Errno) {
	switch {
	case v == nil:
		return nil, api.ErrNil
	case n < 1 || n >= v.Super.Blocks:
		return nil, api.ErrRange
	case v.disk == nil: // it wasn't opened
		return nil, api.ErrNil
	}
	return read(v.disk, n)
}

// Fixed: the blocks of a group that hold no file's: the two copies, the maps, the inodes.
func (v *Volume) Fixed(g int64) []int64 {
	if v == nil || !within(0, int64(len(v.Rows))-1, g) || v.Each > mostEach {
		return nil
	}
	row := v.Rows[g]
	from, _ := v.Group(g)
	list := []int64{from, from + 1, row.Blocks, row.Inodes}
	for i := range v.Table() {
		list = append(list, row.Table+i)
	}
	return list
}

// Used: is a block marked as used? What no map tells of counts so: it can't be
// given out.
func (v *Volume) Used(n int64) bool {
	if v == nil || n < 1 || n >= v.Super.Blocks {
		return true
	}
	g, i := (n-1)/v.per(), (n-1)%v.per()
	if g >= int64(len(v.Blocks)) || i >= v.Blocks[g].bits() {
		return true
	}
	return v.Blocks[g].Has(i)
}

// Node: an inode; one that is marked as used.
func (v *Volume) Node(n int64) (Inode, api.Errno) {
	if v == nil {
		return Inode{}, api.ErrNil
	}
	if n < 1 || n > v.Inodes {
		return Inode{}, api.ErrRange
	}
	each := max(v.Each, 1)
	g, i := (n-1)/each, (n-1)%each
	if g >= int64(len(v.Nodes)) || g >= int64(len(v.Rows)) {
		return Inode{}, api.ErrRange
	}
	if !v.Nodes[g].Has(i) {
		return Inode{}, api.ErrState
	}
	b, e := v.Read(v.Rows[g].Table + i/perBlock)
	if e != api.OK {
		return Inode{}, e
	}
	return ParseInode(b, int(i%perBlock)*InodeSize)
}

// Space: the bytes of the blocks that are free. The maps are gone through, not the
// blocks: there are only so many places in them.
func (v *Volume) Space() extent.Set {
	if v == nil {
		return nil
	}
	var list []api.Ext
	for g, m := range v.Blocks {
		from, _ := v.Group(int64(g))
		for i := range min(v.per(), m.bits()) {
			if n := from + i; !v.Used(n) {
				list = append(list, api.Ext{From: n * Block, To: (n + 1) * Block})
			}
		}
	}
	return extent.Norm(list...)
}
