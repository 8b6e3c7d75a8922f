package rawguest

// Group is where a group's fixed blocks are, but its first two, and how many
// folders it has.
type Group struct {
	Blocks, Inodes, Table, Folders int64
}

// Ext is a volume of groups (ext2) that is laid by hand: the fields of its super;
// its groups; their maps of blocks and of inodes; the blocks and inodes that are
// still to be had, in their order.
type Ext struct {
	Blocks, Per, Each, First int64
	Types                    bool

	Groups      []Group
	Used, Nodes [][]byte
	Left, Spare []int64

	b []byte
}

// Bit: is one set, of each byte the lowest first?
func Bit(b []byte, i int64) bool { return b[i/8]>>(i%8)&1 == 1 }

// mark: a bit is set, or isn't.
func mark(b []byte, i int64, on bool) {
	b[i/8] &^= 1 << (i % 8)
	if on {
		b[i/8] |= 1 << (i % 8)
	}
}

// Count: how many of the first so many bits aren't set.
func Count(b []byte, n int64) int64 {
	free := int64(0)
	for i := range n {
		if !Bit(b, i) {
			free++
		}
	}
	return free
}

// Span: a group's blocks: its first one, and the one behind its last.
func (x *Ext) Span(g int64) (from, to int64) {
	from = 1 + g*x.Per
	return from, min(from+x.Per, x.Blocks)
}

// NewExt: a volume on a partition with these bytes, which stay where nothing is
// laid. How far behind its first two blocks a group's other fixed ones begin is
// asked for each group, with how far they may; with an odd answer its map of inodes
// is ahead of that of blocks.
func NewExt(shape Ext, partition []byte, far func(room int64) int64) *Ext {
	x := shape
	x.b = append([]byte{}, partition...)
	x.Groups, x.Used, x.Nodes, x.Left, x.Spare = nil, nil, nil, nil, nil
	for g := int64(0); g == 0 || 1+g*x.Per < x.Blocks; g++ {
		from, to := x.Span(g)
		by := far(to - from - 4 - x.Each/8)
		at := from + 2 + by
		x.Groups = append(x.Groups, Group{Blocks: at + by%2, Inodes: at + 1 - by%2, Table: at + 2})
		x.Used, x.Nodes = append(x.Used, make([]byte, 1024)), append(x.Nodes, make([]byte, 1024))
		for i := range int64(8192) {
			n := from + i
			fixed := i < 2 || n >= at && n < at+2+x.Each/8
			mark(x.Used[g], i, fixed || n >= to)
			if !fixed && n < to {
				x.Left = append(x.Left, n)
			}
			reserved := g == 0 && i < x.First-1
			mark(x.Nodes[g], i, reserved || i >= x.Each)
			if !reserved && i < x.Each {
				x.Spare = append(x.Spare, g*x.Each+i+1)
			}
		}
	}
	for n := int64(1); n < x.First; n++ {
		clear(x.inode(n))
	}
	return &x
}

// inode: an inode's bytes.
func (x *Ext) inode(n int64) []byte {
	g, i := (n-1)/x.Each, (n-1)%x.Each
	at := 1024*x.Groups[g].Table + 128*i
	return x.b[at : at+128]
}

// block: a block's bytes.
func (x *Ext) block(n int64) []byte { return x.b[1024*n : 1024*n+1024] }

// Take: a block more.
func (x *Ext) Take() int64 {
	n := x.Left[0]
	x.Left = x.Left[1:]
	mark(x.Used[(n-1)/x.Per], (n-1)%x.Per, true)
	return n
}

// Give: an inode more; it is all noughts.
func (x *Ext) Give() int64 {
	n := x.Spare[0]
	x.Spare = x.Spare[1:]
	mark(x.Nodes[(n-1)/x.Each], (n-1)%x.Each, true)
	clear(x.inode(n))
	return n
}

// isZero: are all bytes 0?
func isZero(b []byte) bool {
	for _, c := range b {
		if c != 0 {
			return false
		}
	}
	return true
}

// fill: bytes get blocks, and are laid there; a block of noughts is none.
func (x *Ext) fill(data []byte) []int64 {
	var list []int64
	for len(data) > 0 {
		n := min(1024, len(data))
		if isZero(data[:n]) {
			list = append(list, 0)
		} else {
			list = append(list, x.Take())
			laid(x.b, data[:n], 1024, []int64{1024 * list[len(list)-1]})
		}
		data = data[n:]
	}
	return list
}

// under: the number that names so many blocks at most, by blocks of numbers, so
// many levels of them; 0: there are none. And how many blocks all that takes.
func (x *Ext) under(list []int64, level int) (number, blocks int64) {
	var named []int64
	if level == 0 {
		if len(list) == 0 || list[0] == 0 {
			return 0, 0
		}
		return list[0], 1
	}
	each := 1 << (8 * (level - 1))
	for len(list) > 0 {
		n := min(each, len(list))
		inner, took := x.under(list[:n], level-1)
		named, blocks = append(named, inner), blocks+took
		list = list[n:]
	}
	if blocks == 0 {
		return 0, 0
	}
	number = x.Take()
	clear(x.block(number))
	for i, n := range named {
		put(x.block(number), int64(4*i), 4, n)
	}
	return number, blocks + 1
}

// lay: an inode's fields, of bytes that get blocks.
func (x *Ext) lay(node, mode, links int64, data []byte) {
	list := x.fill(data)
	count := int64(0)
	for i := range 15 {
		level := max(i-11, 0)
		n := min(1<<(8*level), len(list))
		number, took := x.under(list[:n], level)
		put(x.inode(node), int64(40+4*i), 4, number)
		list, count = list[n:], count+took
	}
	put(x.inode(node), 0, 2, mode)
	put(x.inode(node), 4, 4, int64(len(data)))
	put(x.inode(node), 26, 2, links)
	put(x.inode(node), 28, 4, 2*count)
}

// name is a row of a folder ahead of how many bytes it has.
type name struct {
	node, kind int64
	name       string
}

// packed: a folder's rows, as many as there is room for in each block; the last
// one of each has the rest.
func packed(list []name) []byte {
	b := make([]byte, 1024)
	at, last := int64(0), int64(0)
	for _, r := range list {
		need := 8 + 4*units(int64(len(r.name)), 4)
		if at+need > int64(len(b)) {
			put(b, last+4, 2, int64(len(b))-last)
			at = int64(len(b))
			b = append(b, make([]byte, 1024)...)
		}
		put(b, at, 4, r.node)
		put(b, at+4, 2, need)
		b[at+6], b[at+7] = byte(len(r.name)), byte(r.kind)
		copy(b[at+8:], r.name)
		last, at = at, at+need
	}
	put(b, last+4, 2, int64(len(b))-last)
	return b
}

// folder: an inode is a folder with these files, in a folder of another inode.
func (x *Ext) folder(node, above int64, files []File) {
	list := []name{{node, 2, "."}, {above, 2, ".."}}
	links := int64(2)
	for _, f := range files {
		n := x.Give()
		if f.Folder {
			x.folder(n, node, f.Inside)
			list = append(list, name{n, 2, f.Name})
			links++
			continue
		}
		x.lay(n, 0x81A4, 1, f.Data)
		list = append(list, name{n, 1, f.Name})
	}
	if !x.Types {
		for i := range list {
			list[i].kind = 0
		}
	}
	x.lay(node, 0x41ED, links, packed(list))
	x.Groups[(node-1)/x.Each].Folders++
}

// Hold: the volume holds these.
func (x *Ext) Hold(files ...File) *Ext {
	x.folder(2, 2, files)
	return x
}

// Bytes: the partition's bytes: the volume's super, rows and maps are laid now, in
// each group's first two blocks copies of the super and the rows.
func (x *Ext) Bytes() []byte {
	blocks, nodes := int64(0), int64(0)
	rows := x.block(2)
	for g, r := range x.Groups {
		freeBlocks, freeNodes := Count(x.Used[g], x.Per), Count(x.Nodes[g], x.Each)
		blocks, nodes = blocks+freeBlocks, nodes+freeNodes
		for i, v := range [][2]int64{{4, r.Blocks}, {4, r.Inodes}, {4, r.Table}, {2, freeBlocks}, {2, freeNodes}, {2, r.Folders}} {
			put(rows, int64(32*g)+[]int64{0, 4, 8, 12, 14, 16}[i], v[0], v[1])
		}
		copy(x.block(r.Blocks), x.Used[g])
		copy(x.block(r.Inodes), x.Nodes[g])
	}
	x.super(x.block(1), blocks, nodes)
	for g := range x.Groups {
		from, _ := x.Span(int64(g))
		copy(x.block(from), x.block(1))
		copy(x.block(from+1), rows)
	}
	return append([]byte{}, x.b...)
}

// super: the fields of the super's block.
func (x *Ext) super(b []byte, freeBlocks, freeNodes int64) {
	types := int64(0)
	if x.Types {
		types = 2
	}
	for _, f := range [][2]int64{
		{0, int64(len(x.Groups)) * x.Each}, {4, x.Blocks}, {12, freeBlocks}, {16, freeNodes}, {20, 1}, {24, 0},
		{32, x.Per}, {40, x.Each}, {76, 1}, {84, x.First}, {96, types}, {100, 0},
	} {
		put(b, f[0], 4, f[1])
	}
	put(b, 56, 2, 0xEF53)
	put(b, 88, 2, 128)
}
