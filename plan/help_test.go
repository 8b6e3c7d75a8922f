package plan_test

import (
	"math/rand"
	"slices"
	"strconv"
	"testing"

	"fettle/api"
	"fettle/disk"
	"fettle/extent"
	"fettle/gpt"
	"fettle/header"
	"fettle/image"
	"fettle/mbr"
	"fettle/plan"
	"fettle/rawguest"
	"fettle/rawimage"
	"fettle/resize"
)

// The signatures that the document lists.
var (
	_ func(api.Disk) ([]plan.Volume, extent.Set, api.Errno) = plan.Free
	_ func(*image.Image) (plan.Report, api.Errno)           = plan.Make
	_ func(*image.Image) ([][]int64, int, api.Errno)        = plan.Blanks
	_ func(a, b api.Disk) (extent.Set, api.Errno)           = plan.Differ
	_                                                       = plan.Volume{Ext: api.Ext{}, Kind: resize.Unknown, E: api.OK, Free: extent.Set{}}
	_                                                       = plan.Report{Volumes: []plan.Volume{}, Free: extent.Set{}, Whole: extent.Set{}, Steps: [][]int64{}, Bytes: int64(1), Kind: 1}
	_ [plan.Each]bool                                       = [8]bool{}
)

// bare is a disk that hands out its own bytes, with all room behind them: who
// writes into them is found out.
type bare []byte

func (m bare) Size() int64 { return int64(len(m)) }

func (m bare) Read(at, n int64) ([]byte, api.Errno) {
	if at < 0 || n < 0 || n > int64(len(m))-at {
		return nil, api.ErrRange
	}
	return m[at : at+n], api.OK
}

// odd is a disk that answers as it is told, and counts its reads.
type odd struct {
	bare
	reads  int
	answer func(read int, at, n int64) ([]byte, api.Errno, bool)
}

func (o *odd) Read(at, n int64) ([]byte, api.Errno) {
	o.reads++
	if b, e, told := o.answer(o.reads, at, n); told {
		return b, e
	}
	return o.bare.Read(at, n)
}

// refusing: a disk whose n-th read answers an error, with bytes beside it.
func refusing(d []byte, n int, e api.Errno) *odd {
	return &odd{bare: d, answer: func(read int, _, size int64) ([]byte, api.Errno, bool) {
		return make([]byte, size), e, read == n
	}}
}

func ok(t *testing.T, e api.Errno) {
	t.Helper()
	if e != api.OK {
		t.Fatal("error", e)
	}
}

func pattern(n int, seed int64) []byte {
	b := make([]byte, n)
	rand.New(rand.NewSource(seed)).Read(b)
	return b
}

// guest is a disk that is laid by hand: its partitions, rising, and of each sector, as
// nothing here is less than one, whose it is.
type guest struct {
	d     []byte
	list  []plan.Volume
	owner []byte // a table's, a partition's, a path's ..
	slots []mbr.Entry
}

// Whose a sector is.
const (
	gap     = iota
	held    // a table's
	taken   // a partition's that isn't known, or what a volume has for itself, or a path's
	unused  // a volume's, and free
	nowhere // behind the disk's end
)

// newGuest: a disk of so many sectors, and some bytes more.
func newGuest(sectors, more int64, seed int64) *guest {
	g := &guest{d: pattern(int(512*sectors+more), seed), owner: make([]byte, sectors+1)}
	if more == 0 {
		g.owner[sectors] = nowhere
	}
	return g
}

// own: sectors are somebody's.
func (g *guest) own(from, to int64, owner byte) {
	for n := from; n < to; n++ {
		g.owner[n] = owner
	}
}

// sectors: all of an owner, as bytes.
func (g *guest) sectors(owners ...byte) extent.Set {
	var list []api.Ext
	for n, x := range g.owner {
		if slices.Contains(owners, x) {
			list = append(list, api.Ext{From: int64(512 * n), To: min(int64(512*n+512), int64(len(g.d)))})
		}
	}
	return extent.Norm(list...)
}

// partition: bytes are one, from a sector on: of a kind, or why not.
func (g *guest) partition(from int64, b []byte, kind int, e api.Errno, free []api.Ext) {
	copy(g.d[512*from:], b)
	to := from + int64(len(b))/512
	g.own(from, to, taken)
	v := plan.Volume{Ext: api.Ext{From: 512 * from, To: 512 * to}, Kind: kind, E: e}
	for _, x := range free {
		v.Free = append(v.Free, api.Ext{From: 512*from + x.From, To: 512*from + x.To})
		g.own(from+x.From/512, from+x.To/512, unused)
	}
	v.Free = extent.Norm(v.Free...)
	g.list = append(g.list, v)
	slices.SortFunc(g.list, func(a, b plan.Volume) int { return int(a.Ext.From - b.Ext.From) })
	g.slots = append(g.slots, mbr.Entry{Type: 7 + len(g.slots), First: from, Count: to - from})
}

// files: any, for a volume.
func files(r *rand.Rand) (list []rawguest.File) {
	for i := range 1 + r.Intn(4) {
		f := rawguest.File{Name: "N" + strconv.Itoa(i), Data: pattern(r.Intn(2500), r.Int63())}
		if r.Intn(3) == 0 {
			f = rawguest.File{Name: f.Name, Folder: true, Inside: []rawguest.File{{Name: "IN", Data: f.Data}}}
		}
		list = append(list, f)
	}
	return list
}

// fat: a partition with a FAT volume, from a sector on; how many sectors it has.
func (g *guest) fat(r *rand.Rand, from int64) int64 {
	f := rawguest.NewFat(rawguest.Fat{Each: 1 << r.Intn(2), Ahead: 3, Tables: 1 + r.Int63n(2), Long: 1, Sectors: 110 + r.Int63n(20), Info: 1, Copy: 2, Next: 2}, pattern(int(512*(130+r.Int63n(3))), r.Int63()))
	r.Shuffle(len(f.Left), func(i, j int) { f.Left[i], f.Left[j] = f.Left[j], f.Left[i] })
	f.Hold(files(r)...)
	b := f.Bytes()
	var free []api.Ext
	for i, next := range f.Numbers {
		at := 512 * (f.Ahead + f.Tables*f.Long + f.Each*int64(i))
		if next == 0 {
			free = append(free, api.Ext{From: at, To: at + 512*f.Each})
		}
	}
	g.partition(from, b, resize.Fat, api.OK, free)
	return int64(len(b)) / 512
}

// ext: a partition with a volume of groups, from a sector on; how many sectors it has.
func (g *guest) ext(r *rand.Rand, from int64) int64 {
	x := rawguest.NewExt(rawguest.Ext{Blocks: 65 + 10 + r.Int63n(20), Per: 64, Each: 16, First: 11}, pattern(int(512*(190+r.Int63n(3))), r.Int63()), func(room int64) int64 { return r.Int63n(room + 1) })
	r.Shuffle(len(x.Left), func(i, j int) { x.Left[i], x.Left[j] = x.Left[j], x.Left[i] })
	x.Hold(files(r)...)
	b := x.Bytes()
	var free []api.Ext
	for _, n := range x.Left {
		free = append(free, api.Ext{From: 1024 * n, To: 1024*n + 1024})
	}
	g.partition(from, b, resize.Ext, api.OK, free)
	return int64(len(b)) / 512
}

// strange: a partition of any bytes, from a sector on.
func (g *guest) strange(r *rand.Rand, from int64) int64 {
	n := 1 + r.Int63n(20)
	e := api.ErrMagic
	if n < 4 {
		e = api.ErrRange // the second tree has no block
	}
	g.partition(from, pattern(int(512*n), r.Int63()), resize.Unknown, e, nil)
	return n
}

// any: a partition of any kind.
func (g *guest) any(r *rand.Rand, from int64) int64 {
	switch r.Intn(3) {
	case 0:
		return g.fat(r, from)
	case 1:
		return g.ext(r, from)
	}
	return g.strange(r, from)
}

// sector: an MBR's sector with these entries, on bytes that else stay.
func (g *guest) sector(at int64, entries ...mbr.Entry) {
	b := g.d[512*at : 512*at+512]
	for i := range 4 {
		b[446+16*i] &= 0x80
		x := mbr.Entry{}
		if i < len(entries) {
			x = entries[i]
		}
		if e := mbr.Put(b, i, x); e != api.OK {
			panic(e)
		}
	}
	b[510], b[511] = 0x55, 0xAA
	g.own(at, at+1, held)
}

// anyMbr: up to three partitions in the first sector, and a chain with up to two.
func anyMbr(r *rand.Rand) *guest {
	g := newGuest(1100, r.Int63n(2)*r.Int63n(512), r.Int63())
	at := 1 + r.Int63n(5)
	for range r.Intn(4) {
		at += g.any(r, at) + r.Int63n(10)
	}
	outer := slices.Clone(g.slots)
	r.Shuffle(len(outer), func(i, j int) { outer[i], outer[j] = outer[j], outer[i] })
	if r.Intn(2) == 0 {
		g.slots = nil
		first := at
		at += 1 + r.Int63n(4)
		at += g.any(r, at) + r.Int63n(4)
		next := at
		at += 1 + r.Int63n(2)
		at += g.any(r, at) + r.Int63n(9)
		a, b := g.slots[0], g.slots[1]
		a.First, b.First = a.First-first, b.First-next
		g.sector(first, a, mbr.Entry{Type: 5, First: next - first, Count: 1})
		g.sector(next, b)
		outer = append(outer, mbr.Entry{Type: 15, First: first, Count: at - first})
	}
	g.sector(0, outer...)
	return g
}

// anyGpt: up to three partitions, in any order of the entries.
func anyGpt(r *rand.Rand) *guest {
	g := newGuest(900, 0, r.Int63())
	at := 5 + r.Int63n(9)
	for range r.Intn(4) {
		at += g.any(r, at) + r.Int63n(10)
	}
	table := gpt.Table{Sectors: 900, At: 3, First: 5, Last: 890, Behind: 895, List: make([]gpt.Entry, 5)}
	for i, slot := range r.Perm(5)[:len(g.slots)] {
		table.List[slot] = gpt.Entry{First: g.slots[i].First, Last: g.slots[i].First + g.slots[i].Count - 1}
		copy(table.List[slot].Ids[:], pattern(32, int64(i)))
	}
	l, e := table.Encode()
	if e != api.OK {
		panic(e)
	}
	for _, p := range l {
		copy(g.d[p.At:], p.B)
		g.own(p.At/512, (p.At+int64(len(p.B)))/512, held)
	}
	g.sector(0, mbr.Entry{Type: mbr.Guard, First: 1, Count: 899})
	return g
}

func sameVolumes(a, b []plan.Volume) bool {
	return slices.EqualFunc(a, b, func(x, y plan.Volume) bool {
		return x.Ext == y.Ext && x.Kind == y.Kind && x.E == y.E && slices.Equal(x.Free, y.Free)
	})
}

// host is an image that shows a guest's disk.
type host struct {
	*guest
	*image.Image
	f      *disk.File
	behind bare
}

// newHost: an image that holds nothing, of so many bits, for a guest's disk (its last
// sector, if that is shorter, aside); with a disk behind it, or without.
func newHost(t *testing.T, g *guest, bits int, behind []byte) *host {
	t.Helper()
	g.owner[len(g.d)/512] = nowhere
	g.d = g.d[:len(g.d)/512*512]
	h := header.Header{Bits: bits, Size: int64(len(g.d)), Host: min(int64(4<<20)>>bits, 4000), Backed: behind != nil}
	h.Journal = h.Least()
	b, e := image.Make(h)
	ok(t, e)
	f, e := disk.New(b)
	ok(t, e)
	var back api.Disk
	if behind != nil {
		back = bare(behind)
	}
	im, e := image.Open(f, back)
	ok(t, e)
	return &host{guest: g, Image: im, f: f, behind: behind}
}

// put: these clusters of the disk are written, as the guest has them.
func (h *host) put(t *testing.T, clusters ...int64) {
	t.Helper()
	for _, g := range clusters {
		at := g * h.Cluster()
		ok(t, h.Write(image.Edit{At: at, B: h.d[at:min(at+h.Cluster(), int64(len(h.d)))]}))
	}
}

// owned: the guest's clusters that are a Data of their own, by the file's bytes; and
// those of them that are all 0.
func (h *host) owned(t *testing.T) (list, blank []int64) {
	t.Helper()
	b := h.f.Bytes()
	x, fault := rawimage.Of(b)
	if fault != "" {
		t.Fatal("the image isn't right:", fault)
	}
	for g := range x.Guest {
		v, cluster, table := x.Way(x.First-1, g)
		if v < 2 || x.Count(table) != 1 || x.Count(cluster) != 1 {
			continue
		}
		list = append(list, g)
		if isZero(b[cluster*x.Cluster : (cluster+1)*x.Cluster]) {
			blank = append(blank, g)
		}
	}
	return list, blank
}

func isZero(b []byte) bool {
	return !slices.ContainsFunc(b, func(c byte) bool { return c != 0 })
}

// inSteps: eight in a step, fewer in the last.
func inSteps(list []int64) (out [][]int64) {
	for i, g := range list {
		if i%8 == 0 {
			out = append(out, nil)
		}
		out[i/8] = append(out[i/8], g)
	}
	return out
}

func sameSteps(a, b [][]int64) bool {
	return slices.EqualFunc(a, b, func(x, y []int64) bool { return slices.Equal(x, y) })
}
