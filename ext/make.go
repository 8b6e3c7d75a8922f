package ext

import (
	"fettle/api"
	"fettle/octet"
)

// What Make makes.
const (
	leastMadeEach = 16 // so that some may be given out
	madeFirst     = 11
	madeNodes     = madeFirst - 1 // inodes that are used from the beginning on
	madeMode      = 0x41ED
	madeLinks     = 2 // "." and ".." of the root
	madeCount     = Block / api.Sector
)

// Where the fields of a folder's row stand, and what the rows of a root that is
// empty are.
const (
	dirSizeAt  = 4
	dirLongAt  = 6
	dirTypeAt  = 7
	dirNameAt  = 8
	folderType = 2
	dotSize    = 12
)

// Make: the bytes of a volume that holds nothing but its root: so many blocks, so many of them, and so many inodes, a group.
func Make(blocks, per, each int64) ([]byte, api.Errno) {
	if !within(leastPer, mostPer, per) || !within(leastMadeEach, mostEach, each) || !within(leastBlocks, mostBlocks, blocks) {
		return nil, api.ErrRange
	}
	s := Super{Blocks: blocks, Per: per, Each: each, First: madeFirst, Types: true}
	s.Inodes = s.Groups() * each
	if e := s.Check(); e != api.OK {
		return nil, e
	}
	// With a block for the root, and one that is free, all groups are alike.
	if from, to := s.Group(s.Groups() - 1); to-from < s.Table()+aheadOfTable+2 {
		return nil, api.ErrSmall
	}
	v := &Volume{Super: s}
	for g := range s.Groups() {
		v.begin(g)
	}
	return v.bytes(), api.OK
}

// begin: the next group is as it is at the beginning.
func (v *Volume) begin(g int64) {
	from, to := v.Group(g)
	row := Row{Blocks: from + 2, Inodes: from + 3, Table: from + aheadOfTable}
	blocks, nodes := aheadOfTable+v.Table(), int64(0)
	if g == 0 {
		blocks, nodes, row.Folders = blocks+1, madeNodes, 1 // the root
	}
	v.Blocks = append(v.Blocks, freeBetween(blocks, to-from))
	v.Nodes = append(v.Nodes, freeBetween(nodes, v.Each))
	row.FreeBlocks = to - from - blocks
	row.FreeInodes = v.Each - nodes
	v.Rows = append(v.Rows, row)
	v.FreeBlocks += row.FreeBlocks
	v.FreeInodes += row.FreeInodes
}

// freeBetween: a block's map, in which all but the places from one on, up to
// another, are used.
func freeBetween(from, to int64) Map {
	m := make(Map, Block)
	for i := range m.bits() {
		m.Set(i, i < from || i >= to)
	}
	return m
}

// bytes: all bytes of a volume that holds nothing but its root.
func (v *Volume) bytes() []byte {
	out := make([]byte, v.Super.Blocks*Block)
	block := func(n int64) []byte { return out[n*Block : (n+1)*Block] }
	for g, row := range v.Rows {
		from, _ := v.Group(int64(g))
		v.Put(block(from))
		for i, r := range v.Rows {
			r.Put(block(from+1), i*RowSize)
		}
		copy(block(row.Blocks), v.Blocks[g])
		copy(block(row.Inodes), v.Nodes[g])
	}
	table := v.Rows[0].Table
	root := table + v.Table()
	putRoot(block(table)[(Root-1)*InodeSize:], root)
	putDots(block(root))
	return out
}

// putRoot: the root's inode, of one block.
func putRoot(b []byte, block int64) {
	octet.Put16(b, modeAt, madeMode)
	octet.Put32(b, lengthAt, Block)
	octet.Put16(b, linksAt, madeLinks)
	octet.Put32(b, countAt, madeCount)
	octet.Put32(b, atAt, uint32(block))
}

// putDots: the rows of a root that is empty: itself, and what it is in, which is
// itself.
func putDots(b []byte) {
	putDot(b[:dotSize], ".")
	putDot(b[dotSize:], "..")
}

// putDot: a row of all these bytes, that names the root.
func putDot(b []byte, name string) {
	octet.Put32(b, 0, Root)
	octet.Put16(b, dirSizeAt, uint16(len(b)))
	b[dirLongAt], b[dirTypeAt] = byte(len(name)), folderType
	octet.Patch(b, dirNameAt, []byte(name))
}
