package resize

import (
	"slices"

	"fettle/api"
	"fettle/ext"
	"fettle/octet"
)

// What a volume of groups may be.
const (
	leastBlocks = 8
	mostBlocks  = 16384
)

// A new group's fixed blocks: its first two, its two maps, its inodes.
const (
	blocksMapIn = 2
	nodesMapIn  = 3
	tableIn     = 4
)

// places is how many a map has.
const places = 8 * ext.Block

// The blocks that say what a volume is: its super's, its rows'.
const (
	superBlock = 1
	rowsBlock  = 2
)

// Where the super's block has what another size changes.
const (
	inodesAt     = 0
	blocksAt     = 4
	freeBlocksAt = 12
	freeInodesAt = 16
)

// regrouped is a volume of groups on its way to another size: what it was, what its
// super and its rows say then, and what must be written.
type regrouped struct {
	was    *ext.Volume
	then   ext.Super
	rows   []ext.Row
	pieces []Piece
}

// ExtTo: what must be written on a partition, so that its volume has so many blocks.
func ExtTo(d api.Disk, blocks int64) ([]Piece, api.Errno) {
	v, e := ext.Open(d)
	if e != api.OK {
		return nil, e
	}
	r := &regrouped{was: v, then: v.Super}
	r.then.Blocks = blocks
	if e := r.fits(); e != api.OK {
		return nil, e
	}
	for g := range r.then.Groups() {
		if g < v.Groups() {
			r.keep(g)
		} else {
			r.begin(g)
		}
	}
	r.count()
	if e := r.copies(); e != api.OK {
		return nil, e
	}
	return r.pieces, api.OK
}

// fits: may the volume be of its new size, with all that it has in use?
func (r *regrouped) fits() api.Errno {
	if r.then.Blocks < leastBlocks {
		return api.ErrSmall
	}
	if r.then.Blocks > mostBlocks || r.then.Groups() > ext.MaxGroups {
		return api.ErrLimit
	}
	from, to := r.then.Group(r.then.Groups() - 1)
	if to-from < r.then.Table()+tableIn+1 {
		return api.ErrSmall
	}
	for g := range r.was.Groups() {
		if !r.spares(g) {
			return api.ErrSmall
		}
	}
	return api.OK
}

// spares: is nothing in use of what a group loses?
func (r *regrouped) spares(g int64) bool {
	if g >= r.then.Groups() {
		return r.isEmpty(g)
	}
	_, end := r.was.Group(g)
	_, to := r.then.Group(g)
	for n := to; n < end; n++ {
		if r.was.Used(n) {
			return false
		}
	}
	return true
}

// isEmpty: has a group no inode that is used, and no block but the fixed ones?
func (r *regrouped) isEmpty(g int64) bool {
	if r.was.Nodes[g].Count(r.was.Each) != r.was.Each {
		return false
	}
	fixed := r.was.Fixed(g)
	from, end := r.was.Group(g)
	for n := from; n < end; n++ {
		if r.was.Used(n) && !slices.Contains(fixed, n) {
			return false
		}
	}
	return true
}

// mark: all places of a map from one on, up to another, are used, or aren't.
func mark(m ext.Map, from, to int64, used bool) {
	for i := from; i < to; i++ {
		m.Set(i, used)
	}
}

// freeBetween: a map in which the places from one on, up to another, are free alone.
func freeBetween(from, to int64) ext.Map {
	m := make(ext.Map, ext.Block)
	mark(m, 0, places, true)
	mark(m, from, to, false)
	return m
}

// put: a block must be written.
func (r *regrouped) put(block int64, b []byte) {
	r.pieces = append(r.pieces, piece(block*ext.Block, b))
}

// keep: a group that was there, and is.
func (r *regrouped) keep(g int64) {
	from, end := r.was.Group(g)
	_, to := r.then.Group(g)
	m := slices.Clone(r.was.Blocks[g])
	mark(m, end-from, to-from, false)
	mark(m, to-from, places, true)
	row := r.was.Rows[g]
	row.FreeBlocks = m.Count(places)
	r.rows = append(r.rows, row)
	r.put(row.Blocks, m)
}

// begin: a group that is new.
func (r *regrouped) begin(g int64) {
	from, to := r.then.Group(g)
	blocks := freeBetween(tableIn+r.then.Table(), to-from)
	nodes := freeBetween(0, r.then.Each)
	row := ext.Row{
		Blocks:     from + blocksMapIn,
		Inodes:     from + nodesMapIn,
		Table:      from + tableIn,
		FreeBlocks: blocks.Count(places),
		FreeInodes: nodes.Count(places),
	}
	r.rows = append(r.rows, row)
	r.put(row.Blocks, blocks)
	r.put(row.Inodes, nodes)
	for i := range r.then.Table() {
		r.put(row.Table+i, make([]byte, ext.Block))
	}
}

// count: what the super says of all groups together.
func (r *regrouped) count() {
	r.then.Inodes = r.then.Groups() * r.then.Each
	r.then.FreeBlocks, r.then.FreeInodes = 0, 0
	for _, row := range r.rows {
		r.then.FreeBlocks += row.FreeBlocks
		r.then.FreeInodes += row.FreeInodes
	}
}

// copies: each group's first two blocks.
func (r *regrouped) copies() api.Errno {
	super, e := r.was.Read(superBlock)
	if e != api.OK {
		return e
	}
	rows, e := r.was.Read(rowsBlock)
	if e != api.OK {
		return e
	}
	r.putSuper(super)
	r.putRows(rows)
	for g := range r.then.Groups() {
		from, _ := r.then.Group(g)
		r.put(from, super)
		r.put(from+1, rows)
	}
	return api.OK
}

// putSuper: the numbers that are others then; all else of the super's block stays,
// what the layer below doesn't look at, too.
func (r *regrouped) putSuper(b []byte) {
	octet.Put32(b, inodesAt, uint32(r.then.Inodes))
	octet.Put32(b, blocksAt, uint32(r.then.Blocks))
	octet.Put32(b, freeBlocksAt, uint32(r.then.FreeBlocks))
	octet.Put32(b, freeInodesAt, uint32(r.then.FreeInodes))
}

// putRows: all rows; what else stands in those that were there stays, and noughts
// are in all others, and behind them.
func (r *regrouped) putRows(b []byte) {
	was := min(len(r.was.Rows), len(r.rows))
	clear(b[was*ext.RowSize:])
	for i, row := range r.rows {
		row.Put(b, i*ext.RowSize)
	}
}
