package image_test

import (
	"bytes"
	"math"
	"math/rand"
	"slices"
	"testing"

	"fettle/api"
	"fettle/disk"
	"fettle/header"
	"fettle/image"
	"fettle/journal"
	"fettle/maps"
	"fettle/rawimage"
	"fettle/tx"
)

// The signatures that the document lists, and the header's that are promoted.
var (
	_ func(header.Header) ([]byte, api.Errno)                              = image.Make
	_ func(*disk.File, api.Disk) (*image.Image, api.Errno)                 = image.Open
	_ func(*image.Image) int                                               = (*image.Image).Replayed
	_ func(*image.Image) *journal.Journal                                  = (*image.Image).File
	_ func(*image.Image) api.Disk                                          = (*image.Image).Behind
	_ func(...[]byte) (api.Disk, api.Errno)                                = image.Stack
	_ func(*image.Image) *image.View                                       = (*image.Image).Active
	_ func(*image.Image, int64) *image.View                                = (*image.Image).View
	_ func(*image.View) int64                                              = (*image.View).Size
	_ func(*image.View, int64, int64) ([]byte, api.Errno)                  = (*image.View).Read
	_ func(*image.View, int64) (maps.Entry, bool, api.Errno)               = (*image.View).Entry
	_ func(*image.Image, ...image.Edit) api.Errno                          = (*image.Image).Write
	_ func(*image.Image, int, ...int64) api.Errno                          = (*image.Image).Punch
	_ func(*image.Image) ([]int, api.Errno)                                = (*image.Image).Counts
	_ func(*image.Image) (int64, int64, api.Errno)                         = (*image.Image).Ends
	_ func(*image.Image, func(*tx.Tx, int64) api.Errno) api.Errno          = (*image.Image).Share
	_ func(*image.Image, int64, func(*tx.Tx) api.Errno) api.Errno          = (*image.Image).Release
	_ func(*image.Image, int64) api.Errno                                  = (*image.Image).Adopt
	_ func(im *image.Image, from, to int64, spots ...image.Spot) api.Errno = (*image.Image).Move
	_ func(*image.Image, int64) (bool, api.Errno)                          = (*image.Image).Blank
	_ func(*image.Image, int64) (bool, api.Errno)                          = (*image.Image).Pull
	_ func(*image.Image, ...int64) api.Errno                               = (*image.Image).Alone
	_ func(*image.Image) int64                                             = (*image.Image).Cluster
	_ func(*image.Image) int64                                             = (*image.Image).Guest
	_ func(*image.Image) int64                                             = (*image.Image).First
	_ func(*image.Image) api.Ext                                           = (*image.Image).TopAt
	_ func(*image.Image) api.Errno                                         = (*image.Image).Check
	_ api.Disk                                                             = (*image.View)(nil)
)

// extremes: numbers with which a sum or a product would wrap round.
var extremes = []int64{
	math.MinInt64, math.MinInt64 + 1, math.MinInt32, -api.MaxFile, -512, -2, -1,
	api.MaxHost, api.MaxFile, api.MaxGuest, api.MaxGuest + 1, math.MaxInt32, math.MaxUint32, 1 << 55, 1 << 60, 1 << 62, math.MaxInt64 - 1, math.MaxInt64,
}

// fitted: a header with the least journal that it may have.
func fitted(bits int, size, host int64, backed bool) header.Header {
	h := header.Header{Bits: bits, Size: size, Host: host, Backed: backed}
	h.Journal = h.Least()
	return h
}

// kinds: images of all sizes of clusters: disks of one table and of several, that
// end within a cluster and with one.
func kinds(backed bool) []header.Header {
	return []header.Header{
		fitted(9, 65536, 400, backed),
		fitted(9, 70*512, 130, backed),
		fitted(10, 140*1024+512, 260, backed),
		fitted(11, 9*2048+1536, 80, backed),
		fitted(12, 20*4096-512, 90, backed),
		fitted(9, 512, 60, backed),
	}
}

// mem is bytes, as a disk.
type mem []byte

func (m mem) Size() int64 { return int64(len(m)) }

func (m mem) Read(at, n int64) ([]byte, api.Errno) {
	if at < 0 || n < 0 || n > int64(len(m))-at {
		return nil, api.ErrRange
	}
	return slices.Clone(m[at : at+n]), api.OK
}

func ok(t *testing.T, e api.Errno) {
	t.Helper()
	if e != api.OK {
		t.Fatal("error", e)
	}
}

// any bytes, by a number; every eighth row of 512 is noughts.
func pattern(n int, seed int64) []byte {
	b := make([]byte, n)
	r := rand.New(rand.NewSource(seed))
	for i := range b {
		b[i] = byte(1 + r.Intn(255))
	}
	for at := 0; at+512 <= n; at += 4096 {
		clear(b[at : at+512])
	}
	return b
}

func file(t *testing.T, b []byte) *disk.File {
	t.Helper()
	f, e := disk.New(b)
	ok(t, e)
	return f
}

// world is an image, and what it must show: the active disk, and those of the
// rows that a test has laid.
type world struct {
	*image.Image
	f      *disk.File
	behind mem
	active []byte
	snaps  [api.MaxSnaps][]byte
	at     [api.MaxSnaps]int64 // the clusters of their top tables
}

// over: the image in a file that shows what a world does.
func (w *world) over(t *testing.T, b []byte) *world {
	t.Helper()
	next := *w
	next.f = file(t, b)
	var back api.Disk
	if w.behind != nil {
		back = w.behind
	}
	im, e := image.Open(next.f, back)
	ok(t, e)
	next.Image = im
	next.active = slices.Clone(w.active)
	return &next
}

// empty: a world whose image holds nothing; so many bytes are behind it (below 0: none).
func empty(t *testing.T, h header.Header, behind int) *world {
	t.Helper()
	b, e := image.Make(h)
	ok(t, e)
	w := &world{active: make([]byte, h.Size)}
	if h.Backed {
		w.behind = mem(pattern(behind, 77))
		copy(w.active, w.behind)
	}
	return w.over(t, b)
}

// raw: what the file's bytes say, if they are a right image's.
func (w *world) raw(t *testing.T) *rawimage.Image {
	t.Helper()
	x, fault := rawimage.Of(w.f.Bytes())
	if fault != "" {
		t.Fatal("the image isn't right:", fault)
	}
	return x
}

// look holds all that the image shows against what it must.
func (w *world) look(t *testing.T) {
	t.Helper()
	x := w.raw(t)
	show := func(what string, top int64, v *image.View, want []byte) {
		t.Helper()
		if !bytes.Equal(x.Disk(top, w.behind), want) {
			t.Fatal(what, "by the file's bytes isn't what it must be")
		}
		if b, e := v.Read(0, v.Size()); e != api.OK || !bytes.Equal(b, want) {
			t.Fatal(what, "isn't read as what it must be; error", e)
		}
	}
	show("the active disk", w.First()-1, w.Active(), w.active)
	for i, want := range w.snaps {
		if want != nil {
			show("a snapshot's disk", w.at[i], w.View(w.at[i]), want)
		}
	}
}

// write: edits on the image and in what it must show.
func (w *world) write(t *testing.T, edits ...image.Edit) {
	t.Helper()
	ok(t, w.Write(edits...))
	for _, x := range edits {
		copy(w.active[x.At:], x.B)
	}
}

func edit(at int64, b string) image.Edit { return image.Edit{At: at, B: []byte(b)} }

// row: a snapshot's row, by hand.
func row(slot int, cluster int64) []byte {
	b := make([]byte, 32)
	b[0], b[1] = 's', byte('0'+slot)
	for i := range 8 {
		b[16+i] = byte(cluster >> (8 * i))
	}
	b[24] = byte(slot + 1)
	return b
}

// rowAt: where a row stands.
func (w *world) rowAt(slot int) int64 {
	return w.SnapsAt().From + 32*int64(slot)
}

// share: a snapshot, in a row that a test lays.
func (w *world) share(slot int) api.Errno {
	e := w.Share(func(t *tx.Tx, n int64) api.Errno {
		w.at[slot] = n
		return t.Put(w.rowAt(slot), row(slot, n))
	})
	if e == api.OK {
		w.snaps[slot] = slices.Clone(w.active)
	}
	return e
}

// release: a snapshot, and its row, is given back.
func (w *world) release(slot int) api.Errno {
	e := w.Release(w.at[slot], func(t *tx.Tx) api.Errno {
		return t.Put(w.rowAt(slot), make([]byte, 32))
	})
	if e == api.OK {
		w.snaps[slot] = nil
	}
	return e
}

// adopt: the active disk is a snapshot's.
func (w *world) adopt(slot int) api.Errno {
	e := w.Adopt(w.at[slot])
	if e == api.OK {
		w.active = slices.Clone(w.snaps[slot])
	}
	return e
}

// spots: all that refers to a cluster, by the file's bytes.
func spots(x *rawimage.Image, n int64) []image.Spot {
	var list []image.Spot
	for _, r := range x.Spots(n) {
		list = append(list, image.Spot{Table: r.Table, Index: r.Index})
	}
	return list
}

// under: what a guest's cluster is, if the image doesn't hold it.
func (w *world) under(g int64) []byte {
	b := make([]byte, w.Cluster())
	if at := g * w.Cluster(); at < int64(len(w.behind)) {
		copy(b, w.behind[at:])
	}
	return b
}

// becomes: a guest's cluster has these bytes, as far as the disk goes.
func (w *world) becomes(g int64, b []byte) {
	copy(w.active[g*w.Cluster():min((g+1)*w.Cluster(), w.Header.Size)], b)
}

// essence: all of a file that counts.
func essence(t *testing.T, b []byte) string {
	t.Helper()
	x, fault := rawimage.Of(b)
	if fault != "" {
		t.Fatal("the image isn't right:", fault)
	}
	return x.Essence()
}
