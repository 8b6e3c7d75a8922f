package image

import (
	"slices"

	"fettle/api"
	"fettle/header"
	"fettle/maps"
	"fettle/octet"
	"fettle/tx"
)

// Share: a copy of the active disk's top table, in a cluster of its own, within changes that go on with what must come with it; the new cluster.
func (im *Image) Share(also func(t *tx.Tx, cluster int64) api.Errno) api.Errno {
	return im.within(func(c *change) api.Errno {
		n, e := c.copyTop()
		if e != api.OK || also == nil {
			return e
		}
		return also(c.t, n)
	})
}

// copyTop: a new cluster has a copy of the top table.
func (c *change) copyTop() (int64, api.Errno) {
	l, e := c.allOfTop(c.top())
	if e != api.OK {
		return 0, e
	}
	if e := c.disown(c.top(), l); e != api.OK {
		return 0, e
	}
	if e := c.refer(l); e != api.OK {
		return 0, e
	}
	n, e := c.counts.Alloc()
	if e != api.OK {
		return 0, e
	}
	b, e := maps.Bytes(l...)
	if e != api.OK {
		return 0, e
	}
	// What must come with it may read it: so it is among the changes at once.
	if e := c.t.Fresh(c.place(n), b); e != api.OK {
		return 0, e
	}
	return n, api.OK
}

// Release: a top table, and all that nothing else refers to, is given back, within changes that go on with what must come with it.
func (im *Image) Release(cluster int64, also func(t *tx.Tx) api.Errno) api.Errno {
	if im.none() {
		return api.ErrNil
	}
	if cluster < im.First() {
		return api.ErrRange
	}
	return im.within(func(c *change) api.Errno {
		if e := c.drop(cluster, fromTop); e != api.OK || also == nil {
			return e
		}
		return also(c.t)
	})
}

// given: may a cluster of the file be given out?
func (im *Image) given(n int64) bool {
	return n >= im.First() && n < im.Host
}

// Adopt: the active disk becomes what another top table shows; what nothing else refers to is given back.
func (im *Image) Adopt(cluster int64) api.Errno {
	if im.none() {
		return api.ErrNil
	}
	if !im.given(cluster) {
		return api.ErrRange
	}
	return im.within(func(c *change) api.Errno { return c.adopt(cluster) })
}

// adopt: the new tables are referred to ahead of giving the old ones back: what
// both refer to stays.
func (c *change) adopt(n int64) api.Errno {
	count, e := c.counts.Get(n)
	if e != api.OK {
		return e
	}
	if count == 0 {
		return api.ErrState
	}
	l, e := c.allOfTop(n)
	if e != api.OK {
		return e
	}
	old, e := c.allOfTop(c.top())
	if e != api.OK {
		return e
	}
	if e := c.disown(n, l); e != api.OK {
		return e
	}
	if e := c.refer(l); e != api.OK {
		return e
	}
	for i, x := range l {
		if e := c.set(c.top(), int64(i), x); e != api.OK {
			return e
		}
	}
	return eachData(old, func(n int64) api.Errno { return c.drop(n, fromInner) })
}

// Move: a cluster's bytes stand in another, free one, and all that refers to it refers to that; the file isn't longer for it.
func (im *Image) Move(from, to int64, spots ...Spot) api.Errno {
	if im.none() {
		return api.ErrNil
	}
	if !im.given(from) || !im.given(to) || from == to {
		return api.ErrRange
	}
	return im.within(func(c *change) api.Errno {
		count, e := c.movable(from, to, len(spots))
		if e != api.OK {
			return e
		}
		for _, s := range spots {
			if e := c.lead(s, from, to); e != api.OK {
				return e
			}
		}
		return c.carry(from, to, count)
	})
}

// movable: a cluster's count, if that is how many spots there are, and the other
// cluster is free.
func (c *change) movable(from, to int64, spots int) (int, api.Errno) {
	taken, e := c.counts.Get(to)
	if e != api.OK {
		return 0, e
	}
	count, e := c.counts.Get(from)
	if e != api.OK {
		return 0, e
	}
	if taken != 0 || count == 0 || count != spots {
		return 0, api.ErrState
	}
	return count, api.OK
}

// lead: a spot that refers to a cluster refers to another. It is read as it has
// become: the same spot, named twice, isn't two.
func (c *change) lead(s Spot, from, to int64) api.Errno {
	if s.Table == 0 {
		return c.leadRow(s.Index, from, to)
	}
	count, e := c.counts.Get(s.Table)
	if e != api.OK {
		return e
	}
	if count == 0 { // what a table that was given back still says is no reference
		return api.ErrState
	}
	x, e := c.get(s.Table, s.Index)
	if e != api.OK {
		return e
	}
	if x.Kind != maps.Data || x.Cluster != from {
		return api.ErrState
	}
	x.Cluster = to
	return c.set(s.Table, s.Index, x)
}

// leadRow: a snapshot's row that refers to a cluster refers to another.
func (c *change) leadRow(row, from, to int64) api.Errno {
	if row < 0 || row >= api.MaxSnaps {
		return api.ErrRange
	}
	at := c.SnapsAt().From + row*header.SnapSize + api.MaxName // the cluster stands behind the name
	b, e := c.t.Get(at, 8)
	if e != api.OK {
		return e
	}
	if n, _ := octet.U64(b, 0); n != uint64(from) {
		return api.ErrState
	}
	octet.Put64(b, 0, uint64(to))
	return c.t.Put(at, b)
}

// carry: a cluster's bytes and its count are another's.
func (c *change) carry(from, to int64, count int) api.Errno {
	b, e := c.t.Get(c.place(from), c.Cluster())
	if e != api.OK {
		return e
	}
	if e := c.t.Fresh(c.place(to), b); e != api.OK {
		return e
	}
	if e := c.counts.Set(to, count); e != api.OK {
		return e
	}
	return c.counts.Set(from, 0)
}

// Alone: the image has nothing behind it from now on; only if nothing is read from there: no guest's cluster of the active disk or of these tops is None.
func (im *Image) Alone(tops ...int64) api.Errno {
	if im.none() {
		return api.ErrNil
	}
	var alone header.Header
	e := im.within(func(c *change) api.Errno {
		if !c.Backed {
			return api.ErrState
		}
		for _, top := range slices.Concat([]int64{c.top()}, tops) {
			if e := c.full(top); e != api.OK {
				return e
			}
		}
		alone = c.Header
		alone.Backed = false
		b, e := alone.Encode()
		if e != api.OK {
			return e
		}
		return c.t.Put(0, b)
	})
	if e == api.OK {
		im.take(alone)
	}
	return e
}

// full: is no guest's cluster None, by a top table?
func (c *change) full(top int64) api.Errno {
	for g := range c.Guest() {
		x, _, e := c.find(top, g)
		if e != api.OK {
			return e
		}
		if x.Kind == maps.None {
			return api.ErrCross
		}
	}
	return api.OK
}
