package ext

import (
	"fettle/api"
	"fettle/octet"
)

// Where a super's fields stand in its block, and what tells it.
const (
	inodesAt     = 0
	blocksAt     = 4
	freeBlocksAt = 12
	freeInodesAt = 16
	perAt        = 32
	perAgainAt   = 36 // of pieces of blocks, which are whole ones here
	eachAt       = 40
	signAt       = 56
	sign         = 0xEF53
	firstAt      = 84
	sizeAt       = 88 // an inode's
	typesAt      = 96
	typesBit     = 2
)

// fixed4 are the numbers of 4 bytes that are the same in all supers.
var fixed4 = [...]struct {
	at int
	v  uint32
}{
	{20, 1},
	{24, 0},
	{76, 1},
	{100, 0},
}

// Where a row's fields stand.
const (
	rowBlocksAt     = 0
	rowInodesAt     = 4
	rowTableAt      = 8
	rowFreeBlocksAt = 12
	rowFreeInodesAt = 14
	rowFoldersAt    = 16
)

// Where an inode's fields stand.
const (
	modeAt   = 0
	lengthAt = 4
	linksAt  = 26
	countAt  = 28
	atAt     = 40
)

// numberSize is how many bytes a block's number has.
const numberSize = 4

// kindBits are those of an inode's mode that say what it is.
const kindBits = 0xF000

// Row is a group's row: the blocks of its two maps, the first block of its inodes, how many of each are free, how many folders it has.
type Row struct {
	Blocks, Inodes, Table int64
	FreeBlocks            int64
	FreeInodes            int64
	Folders               int64
}

// Map is bits: of a group's blocks, or its inodes.
type Map []byte

// Inode is what an inode says: its kind and rights, its size, its fifteen numbers of blocks.
type Inode struct {
	Mode  int64
	Size  int64
	Count int64 // of its blocks' sectors
	At    [15]int64
}

// get16, get32: the number at a place.
func get16(b []byte, at int) int64 {
	v, _ := octet.U16(b, at)
	return int64(v)
}

func get32(b []byte, at int) int64 {
	v, _ := octet.U32(b, at)
	return int64(v)
}

// Parse: what the block says.
func Parse(b []byte) (Super, api.Errno) {
	if len(b) != Block {
		return Super{}, api.ErrRange
	}
	if get16(b, signAt) != sign {
		return Super{}, api.ErrMagic
	}
	for _, f := range fixed4 {
		if v, _ := octet.U32(b, f.at); v != f.v {
			return Super{}, api.ErrForm
		}
	}
	types := get32(b, typesAt)
	if get16(b, sizeAt) != InodeSize || types != 0 && types != typesBit {
		return Super{}, api.ErrForm
	}
	s := Super{
		Inodes:     get32(b, inodesAt),
		Blocks:     get32(b, blocksAt),
		FreeBlocks: get32(b, freeBlocksAt),
		FreeInodes: get32(b, freeInodesAt),
		Per:        get32(b, perAt),
		Each:       get32(b, eachAt),
		First:      get32(b, firstAt),
		Types:      types == typesBit,
	}
	if e := s.Check(); e != api.OK {
		return Super{}, e
	}
	return s, api.OK
}

// Put: what it says is written into a block; all else stays.
func (s Super) Put(b []byte) api.Errno {
	if len(b) != Block {
		return api.ErrRange
	}
	if e := s.Check(); e != api.OK {
		return e
	}
	for _, f := range fixed4 {
		octet.Put32(b, f.at, f.v)
	}
	octet.Put32(b, inodesAt, uint32(s.Inodes))
	octet.Put32(b, blocksAt, uint32(s.Blocks))
	octet.Put32(b, freeBlocksAt, uint32(s.FreeBlocks))
	octet.Put32(b, freeInodesAt, uint32(s.FreeInodes))
	octet.Put32(b, perAt, uint32(s.Per))
	octet.Put32(b, perAgainAt, uint32(s.Per))
	octet.Put32(b, eachAt, uint32(s.Each))
	octet.Put16(b, signAt, sign)
	octet.Put32(b, firstAt, uint32(s.First))
	octet.Put16(b, sizeAt, InodeSize)
	types := uint32(0)
	if s.Types {
		types = typesBit
	}
	octet.Put32(b, typesAt, types)
	return api.OK
}

// ParseRow: the row that begins at a byte.
func ParseRow(b []byte, at int) (Row, api.Errno) {
	b, there := octet.Slice(b, at, RowSize)
	if !there {
		return Row{}, api.ErrRange
	}
	return Row{
		Blocks:     get32(b, rowBlocksAt),
		Inodes:     get32(b, rowInodesAt),
		Table:      get32(b, rowTableAt),
		FreeBlocks: get16(b, rowFreeBlocksAt),
		FreeInodes: get16(b, rowFreeInodesAt),
		Folders:    get16(b, rowFoldersAt),
	}, api.OK
}

// Put: it is written at a byte; what else stands there stays.
func (r Row) Put(b []byte, at int) api.Errno {
	if _, there := octet.Slice(b, at, RowSize); !there {
		return api.ErrRange
	}
	octet.Put32(b, at+rowBlocksAt, uint32(r.Blocks))
	octet.Put32(b, at+rowInodesAt, uint32(r.Inodes))
	octet.Put32(b, at+rowTableAt, uint32(r.Table))
	octet.Put16(b, at+rowFreeBlocksAt, uint16(r.FreeBlocks))
	octet.Put16(b, at+rowFreeInodesAt, uint16(r.FreeInodes))
	octet.Put16(b, at+rowFoldersAt, uint16(r.Folders))
	return api.OK
}

// bits: how many it has.
func (m Map) bits() int64 { return int64(len(m)) * perByte }

// Has: is a bit set? Set: it is, or isn't, from now on. Count: how many of the first bits aren't.
func (m Map) Has(i int64) bool {
	if !within(0, m.bits()-1, i) {
		return false
	}
	return m[i/perByte]>>(i%perByte)&1 == 1
}

func (m Map) Set(i int64, on bool) {
	if !within(0, m.bits()-1, i) {
		return
	}
	bit := byte(1) << (i % perByte)
	if on {
		m[i/perByte] |= bit
	} else {
		m[i/perByte] &^= bit
	}
}

func (m Map) Count(n int64) int64 {
	free := int64(0)
	for i := range min(n, m.bits()) {
		if !m.Has(i) {
			free++
		}
	}
	return free
}

// Kind: an inode's.
func (x Inode) Kind() int64 { return x.Mode & kindBits }

// ParseInode: the inode that begins at a byte.
func ParseInode(b []byte, at int) (Inode, api.Errno) {
	b, there := octet.Slice(b, at, InodeSize)
	if !there {
		return Inode{}, api.ErrRange
	}
	x := Inode{Mode: get16(b, modeAt), Size: get32(b, lengthAt), Count: get32(b, countAt)}
	for i := range x.At {
		x.At[i] = get32(b, atAt+i*numberSize)
	}
	return x, api.OK
}
