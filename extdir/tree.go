package extdir

import (
	"cmp"
	"slices"

	"fettle/api"
	"fettle/ext"
	"fettle/extent"
	"fettle/octet"
)

// longestInside is the size that a link hasn't, if its text stands in its inode,
// where else its blocks' numbers do.
const longestInside = 60

// linksAt is where an inode says how many rows name it.
const linksAt = 26

// perTable is how many inodes a block holds.
const perTable = ext.Block / ext.InodeSize

// Links is an inode: how many rows name it, and how many it says that do.
type Links struct {
	Node int64
	Rows int64
	Said int64
}

// walk is a way through a volume's folders.
type walk struct {
	vol   *ext.Volume
	taken map[int64]int     // blocks that are fixed, or that an inode has
	known map[int64]content // inodes that were met
	named map[int64]int64   // of inodes: how many rows name them
	paths []api.Path
}

// walked: the way through all folders of a partition.
func walked(d api.Disk) (*walk, api.Errno) {
	vol, e := ext.Open(d)
	if e != api.OK {
		return nil, e
	}
	w := &walk{vol: vol, taken: map[int64]int{}, known: map[int64]content{}, named: map[int64]int64{}}
	for g := range vol.Groups() {
		for _, n := range vol.Fixed(g) {
			w.taken[n] = 1
		}
	}
	root, e := vol.Node(ext.Root)
	if e != api.OK {
		return nil, e
	}
	if root.Kind() != ext.IsFolder {
		return nil, api.ErrForm
	}
	if e := w.folder("", ext.Root, root, 0); e != api.OK {
		return nil, e
	}
	return w, api.OK
}

// Tree: a partition's paths, a folder ahead of what is in it; the root is "". And the bytes that are free.
func Tree(d api.Disk) ([]api.Path, extent.Set, api.Errno) {
	w, e := walked(d)
	if e != api.OK {
		return nil, nil, e
	}
	return w.paths, w.vol.Space(), api.OK
}

// folder: it is met, so many folders deep, and then all that is in it.
func (w *walk) folder(name string, node int64, x ext.Inode, depth int) api.Errno {
	if depth > api.MaxDepth {
		return api.ErrDepth
	}
	if _, was := w.known[node]; was {
		return api.ErrLoop
	}
	if x.Size%ext.Block != 0 || x.Size < ext.Block || x.Size > api.MaxGuest {
		return api.ErrCount
	}
	runs, e := w.runs(node, x)
	if e != api.OK {
		return e
	}
	w.paths = append(w.paths, api.Path{Name: name, Kind: api.Folder, Size: x.Size, Runs: runs})
	for _, run := range runs {
		if run.From < 0 {
			return api.ErrForm
		}
		for at := run.From; at < run.To; at += ext.Block {
			if e := w.block(name, at/ext.Block, depth); e != api.OK {
				return e
			}
		}
	}
	return api.OK
}

// block: what a block of a folder names is met.
func (w *walk) block(folder string, n int64, depth int) api.Errno {
	b, e := w.vol.Read(n)
	if e != api.OK {
		return e
	}
	var list []Row
	e = each(b, func(r Row) {
		w.named[r.Node]++
		if !isDots(r.Name) {
			list = append(list, r)
		}
	})
	if e != api.OK {
		return e
	}
	for _, r := range list {
		if e := w.row(folder, r, depth); e != api.OK {
			return e
		}
	}
	return api.OK
}

// row: what a row of a folder names is met.
func (w *walk) row(folder string, r Row, depth int) api.Errno {
	if len(w.paths) >= api.MaxPaths {
		return api.ErrBig
	}
	x, e := w.vol.Node(r.Node)
	if e != api.OK {
		return e
	}
	name := folder + "/" + r.Name
	switch x.Kind() {
	case ext.IsFolder:
		return w.folder(name, r.Node, x, depth+1)
	case ext.IsFile, ext.IsLink:
		return w.file(name, r.Node, x)
	}
	return api.ErrForm
}

// file: it is met, or a link.
func (w *walk) file(name string, node int64, x ext.Inode) api.Errno {
	p := api.Path{Name: name, Kind: api.File}
	if !isInside(x) {
		runs, e := w.runs(node, x)
		if e != api.OK {
			return e
		}
		p.Size, p.Runs = x.Size, runs
	}
	w.paths = append(w.paths, p)
	return api.OK
}

// isInside: is it a link whose text stands in its inode?
func isInside(x ext.Inode) bool {
	return x.Kind() == ext.IsLink && x.Count == 0 && x.Size < longestInside
}

// Lost: the blocks that are marked as used, and neither a path has nor the volume itself.
func Lost(d api.Disk) ([]int64, api.Errno) {
	w, e := walked(d)
	if e != api.OK {
		return nil, e
	}
	var lost []int64
	for n := int64(1); n < w.vol.Super.Blocks; n++ {
		if w.vol.Used(n) && w.taken[n] == 0 {
			lost = append(lost, n)
		}
	}
	return lost, api.OK
}

// Odd: the inodes that say another count of rows than there are, rising; those that are marked as used and that no row names say 0 rows, from the first on that may be given out.
func Odd(d api.Disk) ([]Links, api.Errno) {
	w, e := walked(d)
	if e != api.OK {
		return nil, e
	}
	said, e := w.said()
	if e != api.OK {
		return nil, e
	}
	var list []Links
	for node, n := range said {
		if w.named[node] != n {
			list = append(list, Links{Node: node, Rows: w.named[node], Said: n})
		}
	}
	slices.SortFunc(list, func(a, b Links) int { return cmp.Compare(a.Node, b.Node) })
	return list, api.OK
}

// said: of each inode that is marked as used how many rows it says that name it;
// those ahead of the first that may be given out are nobody's, but for the root's.
func (w *walk) said() (map[int64]int64, api.Errno) {
	said := map[int64]int64{}
	for g, m := range w.vol.Nodes {
		for i := range w.vol.Each {
			node := int64(g)*w.vol.Each + i + 1
			if !m.Has(i) || node < w.vol.First && node != ext.Root {
				continue
			}
			b, e := w.vol.Read(w.vol.Rows[g].Table + i/perTable)
			if e != api.OK {
				return nil, e
			}
			n, _ := octet.U16(b, int(i%perTable)*ext.InodeSize+linksAt)
			said[node] = int64(n)
		}
	}
	return said, api.OK
}
