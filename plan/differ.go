package plan

import (
	"bytes"

	"fettle/api"
	"fettle/extent"
)

// atOnce is how many bytes of a disk are read at once: many sectors, but not all of
// a great disk.
const atOnce = 128 * api.Sector

// Differ: the sectors in which two disks are unlike, as bytes; where one ends, the other counts as unlike.
func Differ(a, b api.Disk) (extent.Set, api.Errno) {
	if a == nil || b == nil {
		return nil, api.ErrNil
	}
	short, long := min(a.Size(), b.Size()), max(a.Size(), b.Size())
	short, long = max(short, 0), max(long, 0)
	list := []api.Ext{{From: short, To: long}}
	for at := int64(0); at < short; at += atOnce {
		n := min(atOnce, short-at)
		x, e := read(a, at, n)
		if e != api.OK {
			return nil, e
		}
		y, e := read(b, at, n)
		if e != api.OK {
			return nil, e
		}
		list = append(list, unlike(at, x, y)...)
	}
	return extent.Norm(list...), api.OK
}

// read: so many bytes of a disk. One that answers others than it was asked for
// hasn't got them.
func read(d api.Disk, at, n int64) ([]byte, api.Errno) {
	b, e := d.Read(at, n)
	if e != api.OK {
		return nil, e
	}
	if int64(len(b)) != n {
		return nil, api.ErrRange
	}
	return b, api.OK
}

// unlike: the sectors in which as many bytes of two disks, from a place on, are unlike.
func unlike(at int64, x, y []byte) []api.Ext {
	var list []api.Ext
	for from := 0; from < len(x); from += api.Sector {
		to := min(from+api.Sector, len(x))
		if !bytes.Equal(x[from:to], y[from:to]) {
			list = append(list, api.Ext{From: at + int64(from), To: at + int64(to)})
		}
	}
	return list
}
