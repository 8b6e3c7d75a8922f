package fatdir

import (
	"fettle/api"
	"fettle/extent"
	"fettle/fat"
)

// firstCluster is the number of a volume's first cluster.
const firstCluster = 2

// walk is a way through a volume's folders: the paths that were met, and the
// clusters that they have.
type walk struct {
	d     api.Disk
	vol   *fat.Volume
	marks map[int64]int
	paths []api.Path
}

// walked: the way through all folders of a partition.
func walked(d api.Disk) (*walk, api.Errno) {
	vol, e := fat.Open(d)
	if e != api.OK {
		return nil, e
	}
	w := &walk{d: d, vol: vol, marks: map[int64]int{}}
	if e := w.folder("", vol.Root, 0); e != api.OK {
		return nil, e
	}
	return w, api.OK
}

// Tree: a partition's paths, a folder ahead of what is in it; the root is "". And the bytes that are free.
func Tree(d api.Disk) ([]api.Path, extent.Set, api.Errno) {
	w, e := walked(d)
	if e != api.OK {
		return nil, nil, e
	}
	return w.paths, w.vol.Space(), api.OK
}

// folder: it is met, so many folders deep, and then all that is in it. That ends,
// as no cluster is had twice.
func (w *walk) folder(name string, first int64, depth int) api.Errno {
	if depth > api.MaxDepth {
		return api.ErrDepth
	}
	chain, e := w.vol.Chain(first, w.marks)
	if e != api.OK {
		return e
	}
	size := int64(len(chain)) * w.vol.Unit()
	runs := w.vol.Runs(chain, size)
	w.paths = append(w.paths, api.Path{Name: name, Kind: api.Folder, Size: size, Runs: runs})
	b, e := w.read(runs)
	if e != api.OK {
		return e
	}
	rows, e := Rows(b)
	if e != api.OK {
		return e
	}
	for _, r := range rows {
		if e := w.row(name, r, depth); e != api.OK {
			return e
		}
	}
	return api.OK
}

// row: what a row of a folder names is met.
func (w *walk) row(folder string, r Row, depth int) api.Errno {
	name := folder + "/" + r.Name
	switch {
	case len(w.paths) >= api.MaxPaths:
		return api.ErrBig
	case r.Folder:
		return w.folder(name, r.First, depth+1)
	}
	runs, e := w.file(r)
	if e != api.OK {
		return e
	}
	w.paths = append(w.paths, api.Path{Name: name, Kind: api.File, Size: r.Size, Runs: runs})
	return api.OK
}

// file: where a file's bytes stand.
func (w *walk) file(r Row) ([]api.Ext, api.Errno) {
	if r.Size == 0 {
		if r.First != 0 {
			return nil, api.ErrCount
		}
		return nil, api.OK
	}
	chain, e := w.vol.Chain(r.First, w.marks)
	if e != api.OK {
		return nil, e
	}
	unit := w.vol.Unit()
	if int64(len(chain)) != (r.Size+unit-1)/unit {
		return nil, api.ErrCount
	}
	return w.vol.Runs(chain, r.Size), api.OK
}

// read: the bytes of runs, one behind the other. A disk that answers others than it
// was asked for hasn't got them.
func (w *walk) read(runs []api.Ext) ([]byte, api.Errno) {
	var all []byte
	for _, x := range runs {
		n := x.To - x.From
		b, e := w.d.Read(x.From, n)
		if e != api.OK {
			return nil, e
		}
		if int64(len(b)) != n {
			return nil, api.ErrRange
		}
		all = append(all, b...)
	}
	return all, api.OK
}

// Lost: the clusters that the table says are in use, and no path has; bad ones aside.
func Lost(d api.Disk) ([]int64, api.Errno) {
	w, e := walked(d)
	if e != api.OK {
		return nil, e
	}
	var lost []int64
	for i, next := range w.vol.Next {
		c := int64(i) + firstCluster
		if next != fat.Free && next != fat.Bad && w.marks[c] == 0 {
			lost = append(lost, c)
		}
	}
	return lost, api.OK
}
