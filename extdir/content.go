package extdir

import (
	"fettle/api"
	"fettle/ext"
	"fettle/octet"
)

// How an inode names its blocks: so many at once; the numbers behind them name
// blocks of numbers.
const (
	direct     = 12
	numberSize = 4
	perBlock   = ext.Block / numberSize
)

// mostNoughts is how many blocks of noughts are told of an inode: as many as the
// greatest guest's disk has.
const mostNoughts = api.MaxGuest / ext.Block

// content is where an inode's blocks stand, in order, and how many bytes they have.
// They are kept as runs: most inodes have few, and thousands of noughts.
type content struct {
	runs    []api.Ext
	bytes   int64
	noughts int64 // blocks of them
}

// add: so many blocks of noughts, or a block, come behind those that are there.
func (c *content) add(block, count int64) {
	if block == 0 {
		count = min(count, mostNoughts-c.noughts)
		c.noughts += count
	}
	n := count * ext.Block
	last := len(c.runs) - 1
	switch {
	case n == 0:
	case block == 0 && last >= 0 && c.runs[last].From < 0:
		c.runs[last].From -= n
	case block == 0:
		c.runs = append(c.runs, api.Ext{From: -n})
	case last >= 0 && c.runs[last].To == block*ext.Block:
		c.runs[last].To += n
	default:
		c.runs = append(c.runs, api.Ext{From: block * ext.Block, To: block*ext.Block + n})
	}
	c.bytes += n
}

// cut: the runs of the first bytes.
func (c content) cut(size int64) []api.Ext {
	var runs []api.Ext
	for _, x := range c.runs {
		n := min(x.To-x.From, size)
		if n <= 0 {
			break
		}
		size -= n
		if x.From < 0 {
			x.From = x.To - n
		}
		runs = append(runs, api.Ext{From: x.From, To: x.From + n})
	}
	return runs
}

// runs: where the bytes of an inode stand, as many as its size says. From now on it
// is known, and its blocks are taken.
func (w *walk) runs(node int64, x ext.Inode) ([]api.Ext, api.Errno) {
	c, was := w.known[node]
	if !was {
		e := w.through(x, c.add)
		if e != api.OK {
			return nil, e
		}
		w.known[node] = c
	}
	if x.Size > c.bytes {
		return nil, api.ErrCount
	}
	return c.cut(x.Size), api.OK
}

// through: an inode's blocks are handed over, in order.
func (w *walk) through(x ext.Inode, tell func(block, count int64)) api.Errno {
	for i, n := range x.At {
		if e := w.number(n, max(i-direct+1, 0), tell); e != api.OK {
			return e
		}
	}
	return api.OK
}

// number: what a number names is handed over: a block, or those that a block of
// numbers names, and so on, so many levels down. That ends, as no block is taken
// twice.
func (w *walk) number(n int64, level int, tell func(block, count int64)) api.Errno {
	if n == 0 {
		tell(0, spanned(level))
		return api.OK
	}
	if e := w.take(n); e != api.OK {
		return e
	}
	if level == 0 {
		tell(n, 1)
		return api.OK
	}
	b, e := w.vol.Read(n)
	if e != api.OK {
		return e
	}
	for i := range perBlock {
		next, _ := octet.U32(b, i*numberSize)
		if e := w.number(int64(next), level-1, tell); e != api.OK {
			return e
		}
	}
	return api.OK
}

// spanned: how many blocks a number of a level would name.
func spanned(level int) int64 {
	count := int64(1)
	for range level {
		count *= perBlock
	}
	return count
}

// take: a block is an inode's, and can't be another's any more; nor that inode's
// once more, as a place that is taken twice is an error.
func (w *walk) take(n int64) api.Errno {
	switch {
	case n >= w.vol.Super.Blocks:
		return api.ErrRange
	case !w.vol.Used(n):
		return api.ErrForm
	case w.taken[n] > 0:
		return api.ErrCross
	}
	w.taken[n] = 1
	return api.OK
}
