package parts

import (
	"slices"

	"fettle/api"
)

// Mem is bytes, as a disk.
type Mem []byte

// window is a part of a disk, as one.
type window struct {
	api.Disk
	part api.Ext
}

// lacks: aren't so many bytes, from a place on, among those of a size?
func lacks(at, n, size int64) bool {
	return at < 0 || n < 0 || n > size-at
}

// read: so many bytes of a disk, as new memory. A disk that answers others than it
// was asked for hasn't got them.
func read(d api.Disk, at, n int64) ([]byte, api.Errno) {
	b, e := d.Read(at, n)
	if e != api.OK {
		return nil, e
	}
	if int64(len(b)) != n {
		return nil, api.ErrRange
	}
	return slices.Clone(b), api.OK
}

// Size: how many bytes it has.
func (m Mem) Size() int64 { return int64(len(m)) }

// Read: so many bytes at a place of it.
func (m Mem) Read(at, n int64) ([]byte, api.Errno) {
	if lacks(at, n, m.Size()) {
		return nil, api.ErrRange
	}
	return slices.Clone(m[at : at+n]), api.OK
}

// Window: a partition, as a disk.
func Window(d api.Disk, x api.Ext) (api.Disk, api.Errno) {
	if d == nil {
		return nil, api.ErrNil
	}
	if x.From < 0 || x.To < x.From || x.To > d.Size() {
		return nil, api.ErrRange
	}
	return window{Disk: d, part: x}, api.OK
}

// Size: how many bytes the part has.
func (w window) Size() int64 { return w.part.To - w.part.From }

// Read: so many bytes at a place of the part.
func (w window) Read(at, n int64) ([]byte, api.Errno) {
	if lacks(at, n, w.Size()) {
		return nil, api.ErrRange
	}
	return read(w.Disk, w.part.From+at, n)
}
