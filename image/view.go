package image

import (
	"fettle/api"
	"fettle/maps"
	"fettle/octet"
)

// View is a guest's disk, by a top table.
type View struct {
	im  *Image
	top int64
}

// Active: the disk as it is now.
func (im *Image) Active() *View {
	if im.none() {
		return nil
	}
	return im.View(im.First() - 1)
}

// View: the disk by the top table in a cluster.
func (im *Image) View(cluster int64) *View {
	if im.none() {
		return nil
	}
	return &View{im: im, top: cluster}
}

// none: is there no view?
func (v *View) none() bool {
	return v == nil || v.im.none()
}

// Size: how many bytes the guest's disk has.
func (v *View) Size() int64 {
	if v.none() {
		return 0
	}
	return v.im.Size
}

// lacks: aren't so many bytes, from a place on, on the guest's disk?
func (im *Image) lacks(at, n int64) bool {
	return at < 0 || n < 0 || n > im.Size-at
}

// guest: is there such a guest's cluster?
func (im *Image) guest(g int64) api.Errno {
	if im.none() {
		return api.ErrNil
	}
	if g < 0 || g >= im.Guest() {
		return api.ErrRange
	}
	return api.OK
}

// each: what is handed in is done with those of so many bytes of the guest's disk
// that lie in one cluster, cluster by cluster.
func (im *Image) each(at, n int64, do func(at, n int64) api.Errno) api.Errno {
	for n > 0 {
		here := min(n, im.Cluster()-at%im.Cluster())
		if e := do(at, here); e != api.OK {
			return e
		}
		at, n = at+here, n-here
	}
	return api.OK
}

// Read: so many bytes at a place.
func (v *View) Read(at, n int64) ([]byte, api.Errno) {
	if v.none() {
		return nil, api.ErrNil
	}
	if v.im.lacks(at, n) {
		return nil, api.ErrRange
	}
	c, e := v.im.begin()
	if e != api.OK {
		return nil, e
	}
	out := make([]byte, 0, n)
	e = c.each(at, n, func(at, n int64) api.Errno {
		x, _, e := c.find(v.top, at/c.Cluster())
		if e != api.OK {
			return e
		}
		b, e := c.bytes(x, at, n)
		out = append(out, b...)
		return e
	})
	if e != api.OK {
		return nil, e
	}
	return out, api.OK
}

// Entry: what the tables say of a guest's cluster, and whether all of the way to it is its own: no other table refers to any part of it.
func (v *View) Entry(g int64) (x maps.Entry, own bool, e api.Errno) {
	if v.none() {
		return maps.Entry{}, false, api.ErrNil
	}
	if e := v.im.guest(g); e != api.OK {
		return maps.Entry{}, false, e
	}
	c, e := v.im.begin()
	if e != api.OK {
		return maps.Entry{}, false, e
	}
	x, table, e := c.find(v.top, g)
	if e != api.OK {
		return maps.Entry{}, false, e
	}
	own, e = c.owned(x, table)
	if e != api.OK {
		return maps.Entry{}, false, e
	}
	return x, own, api.OK
}

// Counts: how often each cluster is referred to.
func (im *Image) Counts() ([]int, api.Errno) {
	c, e := im.begin()
	if e != api.OK {
		return nil, e
	}
	return c.counts.All()
}

// Ends: the highest cluster that is in use, the lowest that is free.
func (im *Image) Ends() (high, low int64, e api.Errno) {
	c, e := im.begin()
	if e != api.OK {
		return 0, 0, e
	}
	return c.counts.Ends()
}

// Blank: holds a guest's cluster a cluster of its own all of whose bytes are 0?
func (im *Image) Blank(g int64) (bool, api.Errno) {
	if e := im.guest(g); e != api.OK {
		return false, e
	}
	c, e := im.begin()
	if e != api.OK {
		return false, e
	}
	x, table, e := c.find(c.top(), g)
	if e != api.OK || x.Kind != maps.Data {
		return false, e
	}
	if own, e := c.owned(x, table); e != api.OK || !own {
		return false, e
	}
	b, e := c.bytes(x, g*c.Cluster(), c.Cluster())
	return e == api.OK && octet.Zero(b), e
}
