package extdir_test

import (
	"bytes"
	"encoding/binary"
	"math/rand"
	"slices"
	"testing"

	"fettle/api"
	"fettle/ext"
	"fettle/extdir"
	"fettle/extent"
)

// The signatures that the document lists.
var (
	_ func([]byte) ([]extdir.Row, api.Errno)             = extdir.Rows
	_ func(api.Disk) ([]api.Path, extent.Set, api.Errno) = extdir.Tree
	_ func(api.Disk) ([]int64, api.Errno)                = extdir.Lost
	_ func(api.Disk) ([]extdir.Links, api.Errno)         = extdir.Odd
	_                                                    = extdir.Row{Name: "", Node: int64(1)}
	_                                                    = extdir.Links{Node: int64(1), Rows: int64(1), Said: int64(1)}
)

// bare is a disk that hands out its own bytes, with all room behind them: who
// writes into them is found out.
type bare []byte

func (m bare) Size() int64 { return int64(len(m)) }

func (m bare) Read(at, n int64) ([]byte, api.Errno) {
	if at < 0 || n < 0 || n > int64(len(m))-at {
		return nil, api.ErrRange
	}
	return m[at : at+n], api.OK
}

// odd is a disk that answers as it is told, and counts its reads.
type odd struct {
	bare
	reads  int
	answer func(read int, at, n int64) ([]byte, api.Errno, bool)
}

func (o *odd) Read(at, n int64) ([]byte, api.Errno) {
	o.reads++
	if b, e, told := o.answer(o.reads, at, n); told {
		return b, e
	}
	return o.bare.Read(at, n)
}

func ok(t *testing.T, e api.Errno) {
	t.Helper()
	if e != api.OK {
		t.Fatal("error", e)
	}
}

func pattern(n int, seed int64) []byte {
	b := make([]byte, n)
	rand.New(rand.NewSource(seed)).Read(b)
	return b
}

func put16(b []byte, at int, v int64) { binary.LittleEndian.PutUint16(b[at:], uint16(v)) }
func put32(b []byte, at int, v int64) { binary.LittleEndian.PutUint32(b[at:], uint32(v)) }
func get16(b []byte, at int) int64    { return int64(binary.LittleEndian.Uint16(b[at:])) }
func get32(b []byte, at int) int64    { return int64(binary.LittleEndian.Uint32(b[at:])) }

// entry is what a row says, ahead of how many bytes it has.
type entry struct {
	node int64
	name string
}

// row: a row of so many bytes, by hand; the byte behind the name's length, and all
// behind the name, are any.
func row(size int, x entry) []byte {
	b := make([]byte, size)
	for i := range b {
		b[i] = byte(len(x.name) + 7*i + 129)
	}
	put32(b, 0, x.node)
	put16(b, 4, int64(size))
	b[6] = byte(len(x.name))
	copy(b[8:], x.name)
	return b
}

// need: how many bytes an entry's row has at least.
func need(x entry) int { return (8 + len(x.name) + 3) / 4 * 4 }

// packed: a folder's bytes: rows, as many as there is room for in each block; the
// last one of each has the rest.
func packed(list ...entry) []byte {
	var all, last []byte
	for i := 0; i < len(list) || len(all) == 0; {
		room := 1024
		var b []byte
		for i < len(list) && need(list[i]) <= room {
			last = row(need(list[i]), list[i])
			b = append(b, last...)
			room -= len(last)
			i++
		}
		if len(b) == 0 {
			b, last, room = row(8, entry{}), row(8, entry{}), room-8
		}
		put16(b, len(b)-len(last)+4, int64(len(last)+room))
		all = append(append(all, b...), make([]byte, room)...)
	}
	return all
}

// rowsByWords: all rows of a block, as the words say; those that are aside, too.
func rowsByWords(b []byte) (all []extdir.Row, e api.Errno) {
	for at := 0; at < len(b); at += int(get16(b, at+4)) {
		if at+8 > len(b) {
			return nil, api.ErrForm
		}
		size, name := int(get16(b, at+4)), int(b[at+6])
		if size%4 != 0 || size < 8+name || at+size > len(b) {
			return nil, api.ErrForm
		}
		r := extdir.Row{Name: string(b[at+8 : at+8+name]), Node: get32(b, at)}
		if r.Node != 0 && r.Name == "" {
			return nil, api.ErrName
		}
		all = append(all, r)
	}
	return all, api.OK
}

// namedByWords: what Rows must answer.
func namedByWords(b []byte) (list []extdir.Row, e api.Errno) {
	all, e := rowsByWords(b)
	for _, r := range all {
		if r.Node != 0 && r.Name != "." && r.Name != ".." {
			list = append(list, r)
		}
	}
	return list, e
}

// world is a volume that is laid by hand, and what of it is still to be had, in
// which order.
type world struct {
	ext.Super
	rows   []ext.Row
	blocks []ext.Map
	nodes  []ext.Map
	d      []byte
	left   []int64 // blocks
	spare  []int64 // inodes
}

// newWorld: a volume of any bytes; the inodes ahead of 11 are used. With a seed above
// 0 its fixed blocks stand anywhere in their groups, and blocks and inodes come in
// any order.
func newWorld(blocks, per, each, seed int64) *world {
	r := rand.New(rand.NewSource(seed))
	w := &world{d: pattern(int(1024*blocks)+r.Intn(1500), seed)}
	w.Super = ext.Super{Blocks: blocks, Per: per, Each: each, First: 11, Types: seed%2 == 0}
	w.Inodes = w.Groups() * each
	for g := range w.Groups() {
		from, to := w.Group(g)
		table := 4 + (to-from-4-each/8)*(seed%3)/2
		x := ext.Row{Blocks: from + 2, Inodes: from + 3, Table: from + table}
		if seed%5 == 4 {
			x.Blocks, x.Inodes = x.Inodes, x.Blocks
		}
		m, n := make(ext.Map, 1024), ext.Map(pattern(1024, seed+g))
		for i := range per {
			used := i < 4 || i >= table && i < table+each/8 || i >= to-from
			m.Set(i, used)
			if !used {
				w.left = append(w.left, from+i)
			}
		}
		for i := range each {
			used := g == 0 && i < 10
			n.Set(i, used)
			if !used {
				w.spare = append(w.spare, g*each+i+1)
			}
		}
		w.rows, w.blocks, w.nodes = append(w.rows, x), append(w.blocks, m), append(w.nodes, n)
	}
	if seed > 0 {
		r.Shuffle(len(w.left), func(i, j int) { w.left[i], w.left[j] = w.left[j], w.left[i] })
		r.Shuffle(len(w.spare), func(i, j int) { w.spare[i], w.spare[j] = w.spare[j], w.spare[i] })
	}
	return w
}

// small: a volume of one group, in order: its inodes in blocks 5 to 8, what is to be
// had from block 9 on, up to 199, and from inode 11 on.
func small() *world { return newWorld(200, 256, 32, 0) }

// at: a block's bytes.
func (w *world) at(n int64) []byte { return w.d[1024*n : 1024*n+1024] }

// inode: an inode's bytes.
func (w *world) inode(n int64) []byte {
	g, i := (n-1)/w.Each, (n-1)%w.Each
	return w.d[1024*w.rows[g].Table+128*i:][:128]
}

// mark: a block is used, or isn't.
func (w *world) mark(n int64, used bool) { w.blocks[(n-1)/w.Per].Set((n-1)%w.Per, used) }

// take: a block more.
func (w *world) take() int64 {
	n := w.left[0]
	w.left = w.left[1:]
	w.mark(n, true)
	return n
}

// give: an inode more.
func (w *world) give() int64 {
	n := w.spare[0]
	w.spare = w.spare[1:]
	w.nodes[(n-1)/w.Each].Set((n-1)%w.Each, true)
	return n
}

// set: an inode's fields, by hand; all else of it is any bytes.
func (w *world) set(n, mode, size, count, links int64, at [15]int64) {
	b := w.inode(n)
	put16(b, 0, mode)
	put32(b, 4, size)
	put16(b, 26, links)
	put32(b, 28, count)
	for i, v := range at {
		put32(b, 40+4*i, v)
	}
}

// fill: blocks with these bytes; where a whole block of them is noughts, and there
// may be holes, it is none.
func (w *world) fill(data []byte, holes bool) (list []int64) {
	for ; len(data) > 0; data = data[min(1024, len(data)):] {
		part := data[:min(1024, len(data))]
		if holes && len(bytes.Trim(part, "\x00")) == 0 {
			list = append(list, 0)
			continue
		}
		list = append(list, w.take())
		copy(w.at(list[len(list)-1]), part)
	}
	return list
}

// span: how many blocks a number of a level names.
func span(level int) int { return 1 << (8 * level) }

// numbers: an inode's fifteen numbers for blocks, with the blocks of numbers behind
// the twelve.
func (w *world) numbers(list []int64) (at [15]int64) {
	for i := range at {
		level := max(0, i-11)
		n := min(span(level), len(list))
		at[i] = w.under(list[:n], level)
		list = list[n:]
	}
	return at
}

// under: the number for blocks of a level; 0, if there are none.
func (w *world) under(list []int64, level int) int64 {
	if !slices.ContainsFunc(list, func(n int64) bool { return n != 0 }) {
		return 0
	}
	if level == 0 {
		return list[0]
	}
	block := w.take()
	clear(w.at(block))
	for i := 0; len(list) > 0; i++ {
		n := min(span(level-1), len(list))
		put32(w.at(block), 4*i, w.under(list[:n], level-1))
		list = list[n:]
	}
	return block
}

// file: an inode for a file with these bytes, that says that a row names it.
func (w *world) file(data []byte) int64 {
	n := w.give()
	w.set(n, 0x81A4, int64(len(data)), 2*int64(len(data)+1023)/1024, 1, w.numbers(w.fill(data, false)))
	return n
}

// folder: an inode is a folder with these rows, that says that so many rows name it.
func (w *world) folder(n, links int64, list ...entry) int64 {
	data := packed(list...)
	w.set(n, 0x41ED, int64(len(data)), int64(len(data)/512), links, w.numbers(w.fill(data, false)))
	return n
}

// root: the root gets these rows.
func (w *world) root(list ...entry) *world {
	w.folder(2, 2, append([]entry{{2, "."}, {2, ".."}}, list...)...)
	return w
}

// disk: the volume's bytes: super, rows and maps are written now.
func (w *world) disk() []byte {
	w.FreeBlocks, w.FreeInodes = 0, 0
	for g := range w.rows {
		x := &w.rows[g]
		x.FreeBlocks, x.FreeInodes = w.blocks[g].Count(w.Per), w.nodes[g].Count(w.Each)
		w.FreeBlocks, w.FreeInodes = w.FreeBlocks+x.FreeBlocks, w.FreeInodes+x.FreeInodes
		copy(w.at(x.Blocks), w.blocks[g])
		copy(w.at(x.Inodes), w.nodes[g])
	}
	if e := w.Put(w.at(1)); e != api.OK {
		panic("no super")
	}
	for g, x := range w.rows {
		x.Put(w.at(2), 32*g)
	}
	return bytes.Clone(w.d)
}
