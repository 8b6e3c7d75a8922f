package image

import (
	"slices"

	"fettle/api"
	"fettle/maps"
	"fettle/refs"
	"fettle/tx"
)

// How many tables lead from a top table, or from one of its own, to the guest's
// bytes, itself included.
const (
	fromTop   = 2
	fromInner = 1
)

// change is what a call reads of an image, and does to it, all within one Tx.
// New clusters are kept beside that till the end: written ahead of the journal
// when nothing more comes to them, they take no room in it.
type change struct {
	*Image
	t      *tx.Tx
	counts *refs.Refs
	tables map[int64][]maps.Entry // those that are new, by their clusters
	data   map[int64][]byte       // the guest's bytes in those that are new
}

// begin: no change yet.
func (im *Image) begin() (*change, api.Errno) {
	t, e := im.Changes()
	if e != api.OK {
		return nil, e
	}
	r, e := refs.New(im.Header, t)
	if e != api.OK {
		return nil, e
	}
	return &change{Image: im, t: t, counts: r, tables: map[int64][]maps.Entry{}, data: map[int64][]byte{}}, api.OK
}

// within: what is handed in is done, and comes all at once. A change that is
// asked for meanwhile would be made of the same free clusters: it isn't begun.
func (im *Image) within(do func(c *change) api.Errno) api.Errno {
	c, e := im.begin()
	if e != api.OK {
		return e
	}
	if im.busy {
		return api.ErrState
	}
	im.busy = true
	defer func() { im.busy = false }()
	e = do(c)
	if e == api.OK {
		e = c.commit()
	}
	if e == api.ErrIO {
		im.unsure = true
	}
	return e
}

// commit: all that was done comes.
func (c *change) commit() api.Errno {
	for n, l := range c.tables {
		b, e := maps.Bytes(l...)
		if e != api.OK {
			return e
		}
		c.data[n] = b
	}
	var rising []int64 // what a crash leaves hangs on their order
	for n := range c.data {
		rising = append(rising, n)
	}
	slices.Sort(rising)
	for _, n := range rising {
		if e := c.t.Fresh(c.place(n), c.data[n]); e != api.OK {
			return e
		}
	}
	return c.t.Commit()
}

// place: where a cluster of the file begins.
func (c *change) place(n int64) int64 {
	return n * c.Cluster()
}

// top: the cluster of the active disk's top table.
func (c *change) top() int64 {
	return c.First() - 1
}

// table: the table in a cluster of the file, of those that may hold one.
func (c *change) table(n int64) (*maps.Table, api.Errno) {
	if n < c.top() {
		return nil, api.ErrRange
	}
	return maps.At(c.Header, c.t, n)
}

// checked: entries of a table, none of which leads outside.
func (c *change) checked(l []maps.Entry, e api.Errno) ([]maps.Entry, api.Errno) {
	if e != api.OK {
		return nil, e
	}
	for _, x := range l {
		if x.Kind == maps.Data && (x.Cluster < c.top() || x.Cluster >= c.Host) {
			return nil, api.ErrRange
		}
	}
	return l, api.OK
}

// get: an entry of the table in a cluster.
func (c *change) get(n, i int64) (maps.Entry, api.Errno) {
	if l, ok := c.tables[n]; ok {
		return l[i], api.OK
	}
	table, e := c.table(n)
	if e != api.OK {
		return maps.Entry{}, e
	}
	x, e := table.Get(i)
	if _, e := c.checked([]maps.Entry{x}, e); e != api.OK {
		return maps.Entry{}, e
	}
	return x, api.OK
}

// set: an entry of the table in a cluster is another one.
func (c *change) set(n, i int64, x maps.Entry) api.Errno {
	if l, ok := c.tables[n]; ok {
		l[i] = x
		return api.OK
	}
	table, e := c.table(n)
	if e != api.OK {
		return e
	}
	return table.Set(i, x)
}

// all: all entries of the table in a cluster.
func (c *change) all(n int64) ([]maps.Entry, api.Errno) {
	table, e := c.table(n)
	if e != api.OK {
		return nil, e
	}
	return c.checked(table.All())
}

// allOfTop: all entries of a top table, which leads to tables alone.
func (c *change) allOfTop(n int64) ([]maps.Entry, api.Errno) {
	l, e := c.all(n)
	if e != api.OK {
		return nil, e
	}
	if slices.ContainsFunc(l, func(x maps.Entry) bool { return x.Kind == maps.Zero }) {
		return nil, api.ErrForm
	}
	return l, api.OK
}

// find: the entry of a guest's cluster by a top table, and the cluster of its
// table; 0: there is none.
func (c *change) find(top, g int64) (x maps.Entry, table int64, e api.Errno) {
	way, e := c.get(top, g/c.Entries())
	if e != api.OK || way.Kind == maps.None {
		return maps.Entry{}, 0, e
	}
	if way.Kind != maps.Data {
		return maps.Entry{}, 0, api.ErrForm
	}
	x, e = c.get(way.Cluster, g%c.Entries())
	if e != api.OK {
		return maps.Entry{}, 0, e
	}
	return x, way.Cluster, api.OK
}

// once: is a cluster's count 1?
func (c *change) once(n int64) (bool, api.Errno) {
	count, e := c.counts.Get(n)
	return count == 1, e // of an error it is 0
}

// owned: is an entry, whose table is in a cluster (0: there is none), its own?
func (c *change) owned(x maps.Entry, table int64) (bool, api.Errno) {
	if table == 0 {
		return true, api.OK
	}
	own, e := c.once(table)
	if own && x.Kind == maps.Data {
		return c.once(x.Cluster)
	}
	return own, e
}

// bytes: so many of a guest's cluster's bytes, from a place of the guest's disk on.
func (c *change) bytes(x maps.Entry, at, n int64) ([]byte, api.Errno) {
	from := at % c.Cluster()
	switch x.Kind {
	case maps.Data:
		if b, ok := c.data[x.Cluster]; ok {
			return slices.Clone(b[from : from+n]), api.OK
		}
		return c.t.Get(c.place(x.Cluster)+from, n)
	case maps.None:
		return c.behind(at, n)
	}
	return make([]byte, n), api.OK
}

// behind: so many bytes of the disk behind; beyond its end, and without one, noughts.
func (c *change) behind(at, n int64) ([]byte, api.Errno) {
	out := make([]byte, n)
	if c.back == nil {
		return out, api.OK
	}
	size := c.back.Size()
	if size <= at {
		return out, api.OK
	}
	b, e := c.back.Read(at, min(n, size-at))
	if e != api.OK {
		return nil, e
	}
	copy(out, b)
	return out, api.OK
}

// disown: the entries of the table in a cluster, which these are, are Own no longer.
func (c *change) disown(n int64, l []maps.Entry) api.Errno {
	for i := range l {
		if !l[i].Own {
			continue
		}
		l[i].Own = false
		if e := c.set(n, int64(i), l[i]); e != api.OK {
			return e
		}
	}
	return api.OK
}

// eachData: what is handed in is done with the cluster of each Data.
func eachData(l []maps.Entry, do func(n int64) api.Errno) api.Errno {
	for _, x := range l {
		if x.Kind != maps.Data {
			continue
		}
		if e := do(x.Cluster); e != api.OK {
			return e
		}
	}
	return api.OK
}

// refer: entries refer to their clusters once more.
func (c *change) refer(l []maps.Entry) api.Errno {
	return eachData(l, func(n int64) api.Errno {
		_, e := c.counts.Add(n, 1)
		return e
	})
}

// drop: a cluster is referred to once less; if it isn't any longer, nor is what
// it refers to itself, so many tables deep.
func (c *change) drop(n int64, deep int) api.Errno {
	count, e := c.counts.Add(n, -1)
	if e != api.OK || count > 0 || deep == 0 {
		return e
	}
	var l []maps.Entry
	if deep == fromTop {
		l, e = c.allOfTop(n)
	} else {
		l, e = c.all(n)
	}
	if e != api.OK {
		return e
	}
	return eachData(l, func(n int64) api.Errno { return c.drop(n, deep-1) })
}
