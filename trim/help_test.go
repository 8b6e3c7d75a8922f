package trim_test

import (
	"bytes"
	"math/rand"
	"slices"
	"strconv"
	"testing"

	"fettle/api"
	"fettle/disk"
	"fettle/extent"
	"fettle/gpt"
	"fettle/header"
	"fettle/image"
	"fettle/mbr"
	"fettle/parts"
	"fettle/plan"
	"fettle/rawguest"
	"fettle/rawimage"
	"fettle/resize"
	"fettle/snapshot"
	"fettle/trim"
)

// The signatures that the document lists, and some of the file's that are promoted.
var (
	_ func([]byte, ...[]byte) (*trim.Tool, api.Errno)             = trim.Open
	_ func(*trim.Tool) api.Errno                                  = (*trim.Tool).Recover
	_ func(*trim.Tool) bool                                       = (*trim.Tool).Broken
	_ func(*trim.Tool) *image.Image                               = (*trim.Tool).Image
	_ func(*trim.Tool, ...image.Edit) api.Errno                   = (*trim.Tool).Write
	_ func(*trim.Tool, string) api.Errno                          = (*trim.Tool).Snap
	_ func(*trim.Tool, string) api.Errno                          = (*trim.Tool).Drop
	_ func(*trim.Tool, string) api.Errno                          = (*trim.Tool).Back
	_ func(*trim.Tool) api.Errno                                  = (*trim.Tool).Alone
	_ func(*trim.Tool) (plan.Report, api.Errno)                   = (*trim.Tool).Dry
	_ func(*trim.Tool) (plan.Report, int, api.Errno)              = (*trim.Tool).Sparsify
	_ func(*trim.Tool) (int, api.Errno)                           = (*trim.Tool).Squeeze
	_ func(*trim.Tool) (int, api.Errno)                           = (*trim.Tool).Compact
	_ func(*trim.Tool, int64) api.Errno                           = (*trim.Tool).Resize
	_ func(*trim.Tool) (int, api.Errno)                           = (*trim.Tool).Pull
	_ func(*trim.Tool) (int, api.Errno)                           = (*trim.Tool).Mend
	_ func(*trim.Tool, int64, int64) ([]byte, api.Errno)          = (*trim.Tool).Read
	_ func(*trim.Tool, ...bool) []byte                            = (*trim.Tool).Crash
	_                                                             = trim.Tool{File: (*disk.File)(nil)}
	_ interface{ Len() int64 }                                    = (*trim.Tool)(nil)
	_ func(*disk.File, api.Disk) (*image.Image, api.Errno)        = image.Open
	_ func(im *image.Image, name string) (*image.View, api.Errno) = snapshot.View
)

func ok(t *testing.T, e api.Errno) {
	t.Helper()
	if e != api.OK {
		t.Fatal("error", e)
	}
}

// pattern: any bytes, by a number, none of them 0.
func pattern(n int64, seed int64) []byte {
	b := make([]byte, n)
	r := rand.New(rand.NewSource(seed))
	for i := range b {
		b[i] = byte(1 + r.Intn(255))
	}
	return b
}

// guest is a disk that is laid by hand: of each of its sectors, as nothing here is
// less than one, whether something reaches it; its partitions, and what they hold.
type guest struct {
	d       []byte
	reached []bool
	entries []mbr.Entry
	volumes []volume
}

// volume is what a partition holds; of an unknown one nothing.
type volume struct {
	kind  int
	files []rawguest.File
}

// newGuest: a disk of so many sectors, of any bytes.
func newGuest(sectors int64) *guest {
	return &guest{d: pattern(512*sectors, sectors), reached: make([]bool, sectors)}
}

// reach: sectors are reached, or aren't.
func (g *guest) reach(from, to int64, is bool) {
	for n := from; n < to; n++ {
		g.reached[n] = is
	}
}

// free: the bytes that nothing reaches.
func (g *guest) free() extent.Set {
	var list []api.Ext
	for n, is := range g.reached {
		if !is {
			list = append(list, api.Ext{From: 512 * int64(n), To: 512 * int64(n+1)})
		}
	}
	return extent.Norm(list...)
}

// partition: bytes are one, from a sector on.
func (g *guest) partition(from int64, b []byte, v volume) {
	copy(g.d[512*from:], b)
	n := int64(len(b)) / 512
	g.reach(from, from+n, true)
	g.entries = append(g.entries, mbr.Entry{Type: 7 + len(g.entries), First: from, Count: n})
	g.volumes = append(g.volumes, v)
}

// fat: a partition with a FAT volume of so many sectors, with these files.
func (g *guest) fat(from, sectors int64, files ...rawguest.File) {
	f := rawguest.NewFat(rawguest.Fat{Each: 1, Ahead: 3, Tables: 1, Long: 1, Sectors: sectors, Info: 1, Copy: 2, Next: 2}, pattern(512*sectors, from))
	f.Hold(files...)
	g.partition(from, f.Bytes(), volume{resize.Fat, files})
	for i, next := range f.Numbers {
		if next == 0 {
			g.reach(from+4+int64(i), from+5+int64(i), false)
		}
	}
}

// ext: a partition with a volume of groups, of so many blocks, with these files.
func (g *guest) ext(from, blocks int64, files ...rawguest.File) {
	x := rawguest.NewExt(rawguest.Ext{Blocks: blocks, Per: 64, Each: 16, First: 11, Types: true}, pattern(1024*blocks, from), func(int64) int64 { return 0 })
	x.Hold(files...)
	g.partition(from, x.Bytes(), volume{resize.Ext, files})
	for _, n := range x.Left {
		g.reach(from+2*n, from+2*n+2, false)
	}
}

// strange: a partition of any bytes.
func (g *guest) strange(from, sectors int64) {
	g.partition(from, pattern(512*sectors, from), volume{})
}

// first: a first sector with these entries.
func (g *guest) first(entries ...mbr.Entry) {
	b, e := mbr.Make(entries...)
	if e != api.OK {
		panic(e)
	}
	copy(g.d, b)
	g.reach(0, 1, true)
}

// mbr: the partitions are told by a first sector.
func (g *guest) mbr() *guest {
	g.first(g.entries...)
	return g
}

// gpt: the partitions are told by a table with two copies.
func (g *guest) gpt() *guest {
	n := int64(len(g.d)) / 512
	table := gpt.Table{Sectors: n, At: 2, First: 4, Last: n - 5, Behind: n - 4, List: make([]gpt.Entry, 5)}
	for i, x := range g.entries {
		table.List[i] = gpt.Entry{First: x.First, Last: x.First + x.Count - 1}
		copy(table.List[i].Ids[:], pattern(32, x.First))
	}
	l, e := table.Encode()
	if e != api.OK {
		panic(e)
	}
	for _, p := range l {
		copy(g.d[p.At:], p.B)
		g.reach(p.At/512, (p.At+int64(len(p.B)))/512, true)
	}
	g.first(mbr.Entry{Type: mbr.Guard, First: 1, Count: n - 1})
	return g
}

// some: files, for a volume.
func some(n int64) []rawguest.File {
	var list []rawguest.File
	for i := range n {
		list = append(list, rawguest.File{Name: "F" + strconv.Itoa(int(i)), Data: pattern(400+900*i, 7*i)})
	}
	return append(list, rawguest.File{Name: "IN", Folder: true, Inside: []rawguest.File{{Name: "DEEP.X", Data: pattern(700, 99)}}})
}

// twoVolumes: a disk with volumes of both kinds, and a partition that isn't known.
func twoVolumes() *guest {
	g := newGuest(200)
	g.fat(9, 60, some(3)...)
	g.strange(71, 7)
	g.ext(80, 50, some(2)...)
	return g
}

// oneFat, oneExt: disks with one volume, that end well behind it.
func oneFat() *guest {
	g := newGuest(60)
	g.fat(6, 40, some(1)...)
	return g
}

func oneExt() *guest {
	g := newGuest(90)
	g.ext(6, 30, some(1)...)
	return g
}

// holds: a disk's partitions hold what they must.
func (g *guest) holds(t *testing.T, d []byte) {
	t.Helper()
	m, e := parts.Parse(parts.Mem(d))
	ok(t, e)
	if len(m.Parts) != len(g.volumes) {
		t.Fatal("other partitions:", m.Parts)
	}
	for i, v := range g.volumes {
		w, e := parts.Window(parts.Mem(d), m.Parts[i].Ext)
		ok(t, e)
		kind, paths, _, e := resize.Known(w)
		if kind != v.kind || (e == api.OK) != (kind != resize.Unknown) {
			t.Fatal("partition", i, "is of kind", kind, "error", e)
		}
		if kind == resize.Unknown {
			continue
		}
		want := rawguest.Paths(v.files...)
		if len(paths) != len(want) {
			t.Fatal("other paths:", paths)
		}
		for i, p := range paths {
			b, e := parts.Content(w, p)
			if p.Name != want[i].Name || (p.Kind == api.Folder) != want[i].Folder || !want[i].Folder && (e != api.OK || !bytes.Equal(b, want[i].Data)) {
				t.Fatal("another path:", p.Name, e)
			}
		}
	}
}

// world is a host's file, the files behind it, the guest's disk that it was made of,
// and what it shows.
type world struct {
	*guest
	b      []byte
	behind [][]byte
	back   []byte // what those behind show
	active []byte
	snaps  map[string][]byte
}

// fitted: a header for a guest's disk.
func fitted(bits int, size int64, backed bool) header.Header {
	h := header.Header{Bits: bits, Size: size, Host: min(2*size>>bits+90, api.MaxFile>>bits), Backed: backed}
	h.Journal = h.Least()
	return h
}

// newWorld: an image that holds nothing, for a guest's disk, over others.
func newWorld(t *testing.T, g *guest, bits int, behind ...[]byte) *world {
	t.Helper()
	b, e := image.Make(fitted(bits, int64(len(g.d)), len(behind) > 0))
	ok(t, e)
	w := &world{guest: g, b: b, behind: behind}
	if len(behind) > 0 {
		d, e := image.Stack(behind...)
		ok(t, e)
		w.back, e = d.Read(0, d.Size())
		ok(t, e)
	}
	w.take(t, w.open(t))
	return w
}

// open: the tool for a world.
func (w *world) open(t *testing.T) *trim.Tool {
	t.Helper()
	u, e := trim.Open(w.b, w.behind...)
	ok(t, e)
	return u
}

// take: a world is what a tool has made of it.
func (w *world) take(t *testing.T, u *trim.Tool) {
	t.Helper()
	w.b = u.Bytes()
	x := right(t, w.b)
	w.active = x.Disk(x.First-1, w.back)
	w.snaps = map[string][]byte{}
	for name, top := range named(w.b, x) {
		w.snaps[name] = x.Disk(top, w.back)
	}
}

// right: what a file's bytes say, if they are a right image's.
func right(t *testing.T, b []byte) *rawimage.Image {
	t.Helper()
	x, fault := rawimage.Of(b)
	if fault != "" {
		t.Fatal("the image isn't right:", fault)
	}
	return x
}

// named: the clusters of the snapshots' top tables, by their names.
func named(b []byte, x *rawimage.Image) map[string]int64 {
	list := map[string]int64{}
	for i, top := range x.Rows() {
		if top != 0 {
			at := (x.First-2)*x.Cluster + 32*int64(i)
			list[string(bytes.TrimRight(b[at:at+16], "\x00"))] = top
		}
	}
	return list
}

// put: clusters of the disk are written, as the guest has them, one by one.
func (w *world) put(t *testing.T, u *trim.Tool, clusters ...int64) {
	t.Helper()
	unit := u.Image().Cluster()
	for _, c := range clusters {
		ok(t, u.Write(image.Edit{At: c * unit, B: w.d[c*unit : min((c+1)*unit, int64(len(w.d)))]}))
	}
}

// any: some of a disk's clusters, in any order: each of those that something reaches,
// if all are asked for; of the others, and else, so many of eight.
func (w *world) any(r *rand.Rand, unit int64, all bool, most int) (list []int64) {
	free, _ := w.free().Inward(unit)
	for _, c := range r.Perm((len(w.d) + int(unit) - 1) / int(unit)) {
		if r.Intn(8) < most || all && !free.Has(int64(c)*unit) {
			list = append(list, int64(c))
		}
	}
	return list
}

// blank: some clusters that nothing reaches are noughts on the guest's disk.
func (w *world) blank(r *rand.Rand, unit int64) {
	free, _ := w.free().Inward(unit)
	for _, x := range free.All() {
		for at := x.From; at < x.To; at += unit {
			if r.Intn(4) == 0 {
				clear(w.d[at : at+unit])
			}
		}
	}
}

// shape is how an image is laid that shows a guest's disk.
type shape struct {
	bits, behind int
	snap         bool
	seed         int64
}

// laid: a world whose images hold a guest's disk, in any order.
func laid(t *testing.T, g *guest, s shape) *world {
	t.Helper()
	r := rand.New(rand.NewSource(s.seed))
	unit := int64(1) << s.bits
	var files [][]byte
	for n := range s.behind {
		w := newWorld(t, g, s.bits, files...)
		u := w.open(t)
		w.put(t, u, w.any(r, unit, n == 0, 4)...)
		files = append(files, u.Bytes())
	}
	w := newWorld(t, g, s.bits, files...)
	w.blank(r, unit)
	u := w.open(t)
	w.put(t, u, w.any(r, unit, s.behind == 0, 6)...)
	if s.snap {
		ok(t, u.Snap("a"))
		w.put(t, u, w.any(r, unit, false, 3)...)
		ok(t, u.Snap("b-2"))
		w.put(t, u, w.any(r, unit, false, 3)...)
	}
	w.take(t, u)
	w.guest.holds(t, w.active)
	return w
}

// shapes: images of clusters of all sizes, alone and over others, with snapshots and
// without.
func shapes() []shape {
	return []shape{{9, 0, false, 1}, {9, 0, true, 2}, {10, 1, false, 3}, {10, 2, true, 4}, {11, 1, true, 5}, {12, 0, true, 6}, {12, 3, false, 7}, {9, 2, true, 8}}
}

// guests: disks of both tables.
func guests() []func() *guest {
	return []func() *guest{
		func() *guest { return twoVolumes().mbr() },
		func() *guest { return twoVolumes().gpt() },
		func() *guest { return newGuest(50).mbr() },
		func() *guest { return oneExt().gpt() },
	}
}

// shows: a file shows what a world does, but that of the active disk sectors that
// nothing reaches may be noughts, if that is said.
func (w *world) shows(t *testing.T, b []byte, trimmed bool) *rawimage.Image {
	t.Helper()
	x := right(t, b)
	list := named(b, x)
	if len(list) != len(w.snaps) {
		t.Fatal("other snapshots:", list)
	}
	for name, want := range w.snaps {
		if list[name] == 0 || !bytes.Equal(x.Disk(list[name], w.back), want) {
			t.Fatal("the snapshot", name, "isn't as ahead")
		}
	}
	d := x.Disk(x.First-1, w.back)
	for n := range len(d) / 512 {
		is, was := d[512*n:512*n+512], w.active[512*n:512*n+512]
		if !bytes.Equal(is, was) && !(trimmed && !w.reached[n] && isZero(is)) {
			t.Fatal("sector", n, "of the active disk isn't as ahead")
		}
	}
	return x
}

func isZero(b []byte) bool {
	return !slices.ContainsFunc(b, func(c byte) bool { return c != 0 })
}

// own: the guest's clusters that are a Data of the active disk's own; of them those that
// lie whole in what nothing reaches; and those that are all 0.
func (w *world) own(x *rawimage.Image, b []byte) (all, whole, blank []int64) {
	free := w.free()
	for c := range x.Guest {
		v, cluster, table := x.Way(x.First-1, c)
		if v < 2 || x.Count(table) != 1 || x.Count(cluster) != 1 {
			continue
		}
		all = append(all, c)
		if free.Covers(api.Ext{From: c * x.Cluster, To: (c + 1) * x.Cluster}) {
			whole = append(whole, c)
		}
		if isZero(b[cluster*x.Cluster : (cluster+1)*x.Cluster]) {
			blank = append(blank, c)
		}
	}
	return all, whole, blank
}

// steps: in how many steps so many clusters are given back.
func steps(n int) int { return (n + 7) / 8 }
