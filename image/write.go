package image

import (
	"slices"

	"fettle/api"
	"fettle/maps"
	"fettle/octet"
)

// Write: the guest's disk has other bytes at some places, all at once.
func (im *Image) Write(edits ...Edit) api.Errno {
	if im.none() {
		return api.ErrNil
	}
	for _, x := range edits {
		if im.lacks(x.At, int64(len(x.B))) {
			return api.ErrRange
		}
	}
	return im.within(func(c *change) api.Errno {
		for _, x := range edits {
			if e := c.edit(x); e != api.OK {
				return e
			}
		}
		return api.OK
	})
}

// edit: bytes stand on the active disk.
func (c *change) edit(x Edit) api.Errno {
	return c.each(x.At, int64(len(x.B)), func(at, n int64) api.Errno {
		from := at - x.At
		return c.put(at, x.B[from:from+n])
	})
}

// put: bytes stand on the active disk, all of them in one cluster: where it
// stands, if nothing else refers to that; else in a new one.
func (c *change) put(at int64, p []byte) api.Errno {
	g := at / c.Cluster()
	table, e := c.ownTable(g / c.Entries())
	if e != api.OK {
		return e
	}
	x, e := c.get(table, g%c.Entries())
	if e != api.OK {
		return e
	}
	if x.Kind != maps.Data {
		return c.replace(table, x, at, p)
	}
	once, e := c.once(x.Cluster)
	if e != api.OK {
		return e
	}
	if once {
		return c.overwrite(x.Cluster, at%c.Cluster(), p)
	}
	// A count that is wrongly 0 is told ahead of the new cluster: it would be this one.
	if e := c.drop(x.Cluster, 0); e != api.OK {
		return e
	}
	return c.replace(table, x, at, p)
}

// replace: bytes of a guest's cluster stand in a new cluster of the file, with all others as they are.
func (c *change) replace(table int64, x maps.Entry, at int64, p []byte) api.Errno {
	b, e := c.patched(x, at, p)
	if e != api.OK {
		return e
	}
	return c.hold(table, at/c.Cluster(), b)
}

// overwrite: a cluster's bytes are changed where they stand.
func (c *change) overwrite(n, from int64, p []byte) api.Errno {
	if b, ok := c.data[n]; ok {
		octet.Patch(b, int(from), p)
		return api.OK
	}
	return c.t.Put(c.place(n)+from, p)
}

// patched: a guest's cluster's bytes, with others at a place. Those that all
// become others aren't read: a disk behind that refuses them doesn't matter.
func (c *change) patched(x maps.Entry, at int64, p []byte) ([]byte, api.Errno) {
	if int64(len(p)) == c.Cluster() {
		return slices.Clone(p), api.OK
	}
	from := at % c.Cluster()
	b, e := c.bytes(x, at-from, c.Cluster())
	if e != api.OK {
		return nil, e
	}
	octet.Patch(b, int(from), p)
	return b, api.OK
}

// hold: a guest's cluster, whose table is in a cluster, has a new one with these bytes.
func (c *change) hold(table, g int64, b []byte) api.Errno {
	n, e := c.counts.Alloc()
	if e != api.OK {
		return e
	}
	c.data[n] = b
	return c.set(table, g%c.Entries(), maps.Entry{Kind: maps.Data, Cluster: n, Own: true})
}

// ownTable: the cluster of a table of the active disk's; it becomes its own.
func (c *change) ownTable(i int64) (int64, api.Errno) {
	x, e := c.get(c.top(), i)
	if e != api.OK {
		return 0, e
	}
	switch x.Kind {
	case maps.None:
		return c.newTable(i, make([]maps.Entry, c.Entries()))
	case maps.Zero:
		return 0, api.ErrForm
	}
	once, e := c.once(x.Cluster)
	if e != api.OK {
		return 0, e
	}
	if once {
		return x.Cluster, api.OK
	}
	return c.copyTable(i, x.Cluster)
}

// newTable: a new cluster has a table with these entries, the active disk's own.
func (c *change) newTable(i int64, l []maps.Entry) (int64, api.Errno) {
	n, e := c.counts.Alloc()
	if e != api.OK {
		return 0, e
	}
	c.tables[n] = l
	if e := c.set(c.top(), i, maps.Entry{Kind: maps.Data, Cluster: n, Own: true}); e != api.OK {
		return 0, e
	}
	return n, api.OK
}

// copyTable: a new cluster has the entries of the table in another one, to which
// the active disk refers no longer.
func (c *change) copyTable(i, old int64) (int64, api.Errno) {
	l, e := c.all(old)
	if e != api.OK {
		return 0, e
	}
	if e := c.disown(old, l); e != api.OK {
		return 0, e
	}
	if e := c.refer(l); e != api.OK {
		return 0, e
	}
	if _, e := c.counts.Add(old, -1); e != api.OK {
		return 0, e
	}
	return c.newTable(i, l)
}

// Punch: guests' clusters hold nothing any longer (None), or noughts (Zero), all at once; only those that are their own are asked for.
func (im *Image) Punch(kind int, clusters ...int64) api.Errno {
	if im.none() {
		return api.ErrNil
	}
	if kind != maps.None && kind != maps.Zero {
		return api.ErrArg
	}
	return im.within(func(c *change) api.Errno {
		for _, g := range clusters {
			if e := c.punch(kind, g); e != api.OK {
				return e
			}
		}
		return api.OK
	})
}

// punch: a guest's cluster holds nothing any longer; what it held is given back.
func (c *change) punch(kind int, g int64) api.Errno {
	if e := c.guest(g); e != api.OK {
		return e
	}
	x, table, e := c.find(c.top(), g)
	if e != api.OK {
		return e
	}
	own, e := c.owned(x, table)
	if e != api.OK {
		return e
	}
	if !own || x.Kind != maps.Data {
		return api.ErrState
	}
	if e := c.set(table, g%c.Entries(), maps.Entry{Kind: kind}); e != api.OK {
		return e
	}
	return c.drop(x.Cluster, 0)
}

// Pull: a guest's cluster that is read from behind is held by the image itself; noughts become a Zero. Was it read from behind?
func (im *Image) Pull(g int64) (bool, api.Errno) {
	if e := im.guest(g); e != api.OK {
		return false, e
	}
	pulled := false
	e := im.within(func(c *change) api.Errno {
		x, _, e := c.find(c.top(), g)
		if e != api.OK || x.Kind != maps.None || c.back == nil {
			return e
		}
		pulled = true
		return c.pull(g)
	})
	return pulled && e == api.OK, e
}

// pull: a guest's cluster, as it is read from behind, is held by the image itself.
func (c *change) pull(g int64) api.Errno {
	b, e := c.behind(g*c.Cluster(), c.Cluster())
	if e != api.OK {
		return e
	}
	table, e := c.ownTable(g / c.Entries())
	if e != api.OK {
		return e
	}
	if octet.Zero(b) {
		return c.set(table, g%c.Entries(), maps.Entry{Kind: maps.Zero})
	}
	return c.hold(table, g, b)
}
