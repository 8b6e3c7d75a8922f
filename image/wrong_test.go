package image_test

import (
	"bytes"
	"encoding/binary"
	"math"
	"math/rand"
	"slices"
	"testing"

	"fettle/api"
	"fettle/header"
	"fettle/image"
	"fettle/maps"
	"fettle/tx"
)

// No image: nil, and one that Open didn't make.
func TestNil(t *testing.T) {
	for name, im := range map[string]*image.Image{"nil": nil, "neither": {}, "a header alone": {Header: fitted(9, 65536, 400, true)}} {
		if im.Replayed() != 0 || im.File() != nil || im.Behind() != nil || im.Active() != nil {
			t.Error(name, "something is told")
		}
		for _, n := range append([]int64{0, 1, 33, 34}, extremes...) {
			if im.View(n) != nil {
				t.Error(name, "View")
			}
			if b, e := im.Blank(n); b || e != api.ErrNil {
				t.Error(name, "Blank", b, e)
			}
			if b, e := im.Pull(n); b || e != api.ErrNil {
				t.Error(name, "Pull", b, e)
			}
			for what, e := range map[string]api.Errno{
				"Write": im.Write(image.Edit{At: n}), "Punch": im.Punch(int(n), n), "Release": im.Release(n, nil),
				"Adopt": im.Adopt(n), "Move": im.Move(n, n, image.Spot{Table: n}), "Alone": im.Alone(n),
			} {
				if e != api.ErrNil {
					t.Error(name, what, e)
				}
			}
		}
		for what, e := range map[string]api.Errno{"Write": im.Write(), "Punch": im.Punch(0), "Share": im.Share(nil), "Alone": im.Alone()} {
			if e != api.ErrNil {
				t.Error(name, what, e)
			}
		}
		if l, e := im.Counts(); len(l) != 0 || e != api.ErrNil {
			t.Error(name, "Counts", e)
		}
		if high, low, e := im.Ends(); high != 0 || low != 0 || e != api.ErrNil {
			t.Error(name, "Ends", high, low, e)
		}
		if c, e := im.Changes(); c != nil || e != api.ErrNil {
			t.Error(name, "Changes", e)
		}
		e := im.Share(func(*tx.Tx, int64) api.Errno { t.Error(name, "Share calls"); return api.OK })
		if e != api.ErrNil {
			t.Error(name, "Share", e)
		}
	}
	for name, v := range map[string]*image.View{"nil": nil, "neither": {}} {
		if v.Size() != 0 {
			t.Error(name, "Size", v.Size())
		}
		for _, n := range append([]int64{0, 1}, extremes...) {
			if b, e := v.Read(n, n); len(b) != 0 || e != api.ErrNil {
				t.Error(name, "Read", len(b), e)
			}
			if x, own, e := v.Entry(n); x != (maps.Entry{}) || own || e != api.ErrNil {
				t.Error(name, "Entry", x, own, e)
			}
		}
	}
}

// A nil view stands behind: it has no byte.
func TestNilViewBehind(t *testing.T) {
	b, _ := image.Make(fitted(9, 65536, 400, true))
	im, e := image.Open(file(t, b), (*image.View)(nil))
	ok(t, e)
	if p, e := im.Active().Read(0, 65536); e != api.OK || !bytes.Equal(p, make([]byte, 65536)) {
		t.Error("Read", e)
	}
}

// Views by clusters in which no top table can be.
func TestViewsOutside(t *testing.T) {
	w := filled(t, fitted(9, 65536, 400, false), -1)
	for _, n := range append([]int64{0, 1, w.First() - 2, w.Host}, extremes...) {
		v := w.View(n)
		if v.Size() != 65536 {
			t.Error(n, "Size", v.Size())
		}
		if b, e := v.Read(0, 10); len(b) != 0 || e != api.ErrRange {
			t.Error(n, "Read", len(b), e)
		}
		if x, own, e := v.Entry(0); x != (maps.Entry{}) || own || e != api.ErrRange {
			t.Error(n, "Entry", x, own, e)
		}
		if b, e := v.Read(0, 0); len(b) != 0 || e != api.OK {
			t.Error(n, "Read of nothing", e)
		}
	}
	w.look(t)
}

// laid: a file whose bytes are others at a place.
func laid(b []byte, at int64, v uint64) []byte {
	b = slices.Clone(b)
	binary.LittleEndian.PutUint64(b[at:], v)
	return b
}

// Entries that lead where nothing can be, or are none.
func TestWrongEntries(t *testing.T) {
	h := fitted(9, 65536, 400, true)
	w := empty(t, h, 9000)
	w.write(t, edit(700, "abc"))
	good := w.f.Bytes()
	first := h.First()
	top, table := (first-1)*512, first*512+8 // where the way to the guest's second cluster stands
	for _, c := range []struct {
		what string
		at   int64
		v    uint64
		want api.Errno
	}{
		{"no entry in the top table", top, 2, api.ErrForm},
		{"a Zero in the top table", top, 1, api.ErrForm},
		{"a table ahead of the top table", top, uint64(first-2) * 256, api.ErrRange},
		{"a table in the journal", top, 256, api.ErrRange},
		{"a table beyond", top, uint64(h.Host) * 256, api.ErrRange},
		{"a table far beyond", top, 8191 * 256, api.ErrRange},
		{"no entry in a table", table, 3, api.ErrForm},
		{"a cluster that is none", table, 8192 * 256, api.ErrForm},
		{"a cluster ahead of the top table", table, uint64(first-2) * 256, api.ErrRange},
		{"a cluster in the journal", table, 1<<63 + 256, api.ErrRange},
		{"a cluster beyond", table, uint64(h.Host) * 256, api.ErrRange},
	} {
		f := file(t, laid(good, c.at, c.v))
		im, e := image.Open(f, mem(w.behind))
		ok(t, e)
		if x, own, e := im.Active().Entry(1); x != (maps.Entry{}) || own || e != c.want {
			t.Errorf("%s: Entry = %+v, %v, %d", c.what, x, own, e)
		}
		if b, e := im.Active().Read(700, 3); len(b) != 0 || e != c.want {
			t.Errorf("%s: Read: %d bytes, %d", c.what, len(b), e)
		}
		if _, e := im.Blank(1); e != c.want {
			t.Errorf("%s: Blank: %d", c.what, e)
		}
		if _, e := im.Pull(1); e != c.want {
			t.Errorf("%s: Pull: %d", c.what, e)
		}
		for name, e := range map[string]api.Errno{"Write": im.Write(edit(700, "x")), "Punch": im.Punch(0, 1), "Alone": im.Alone()} {
			if e != c.want && !(name == "Alone" && e == api.ErrCross) {
				t.Errorf("%s: %s: %d", c.what, name, e)
			}
		}
		if c.at == top {
			if e := im.Share(nil); e != c.want {
				t.Errorf("%s: Share: %d", c.what, e)
			}
		} else if b, e := im.Active().Read(0, 512); e != api.OK || !bytes.Equal(b, w.active[:512]) {
			t.Errorf("%s: the cluster beside it: %d", c.what, e)
		}
		if !bytes.Equal(f.Bytes(), laid(good, c.at, c.v)) {
			t.Errorf("%s: something has changed", c.what)
		}
	}
}

// Wrong tables of snapshots: they are neither adopted nor released by half.
func TestWrongSnapshots(t *testing.T) {
	h := fitted(9, 65536, 400, false)
	w := filled(t, h, -1)
	good := w.f.Bytes()
	for _, c := range []struct {
		v    uint64
		want api.Errno
	}{{2, api.ErrForm}, {1, api.ErrForm}, {256, api.ErrRange}, {8191 * 256, api.ErrRange}} {
		b := laid(good, w.at[0]*512+63*8, c.v)
		f := file(t, b)
		im, e := image.Open(f, nil)
		ok(t, e)
		for name, e := range map[string]api.Errno{"Adopt": im.Adopt(w.at[0]), "Release": im.Release(w.at[0], nil)} {
			if e != c.want {
				t.Errorf("%s of %d: %d", name, c.v, e)
			}
		}
		if !bytes.Equal(f.Bytes(), b) {
			t.Error("something has changed")
		}
	}
}

// Counts that can't be right, or can't be more.
func TestWrongCounts(t *testing.T) {
	h := fitted(9, 65536, 400, false)
	w := filled(t, h, -1)
	good, x := w.f.Bytes(), w.raw(t)
	_, cluster, table := x.Way(h.First()-1, 700/512)
	_, _, shared := x.Way(w.at[1], 700/512)
	with := func(n int64, count uint16) (*image.Image, []byte, func() []byte) {
		b := slices.Clone(good)
		binary.LittleEndian.PutUint16(b[h.RefsAt().From+2*n:], count)
		f := file(t, b)
		im, e := image.Open(f, nil)
		ok(t, e)
		return im, b, f.Bytes
	}
	for _, c := range []struct {
		what  string
		n     int64
		count uint16
		call  func(im *image.Image) api.Errno
		want  api.Errno
	}{
		{"a table's is 0", table, 0, func(im *image.Image) api.Errno { return im.Write(edit(700, "x")) }, api.ErrCount},
		{"a cluster's is 0", cluster, 0, func(im *image.Image) api.Errno { return im.Write(edit(700, "x")) }, api.ErrCount},
		{"a table's is 0", table, 0, func(im *image.Image) api.Errno { return im.Punch(0, 1) }, api.ErrState},
		{"a cluster's is 0", cluster, 0, func(im *image.Image) api.Errno { return im.Punch(0, 1) }, api.ErrState},
		{"a table's is the greatest", table, 65535, func(im *image.Image) api.Errno { return im.Share(nil) }, api.ErrLimit},
		{"a shared table's is the greatest", shared, 65535, func(im *image.Image) api.Errno { return im.Adopt(w.at[1]) }, api.ErrLimit},
		{"a shared table's is 0", shared, 0, func(im *image.Image) api.Errno { return im.Release(w.at[1], nil) }, api.ErrCount},
		{"a top table's is 0", w.at[1], 0, func(im *image.Image) api.Errno { return im.Adopt(w.at[1]) }, api.ErrState},
	} {
		im, b, now := with(c.n, c.count)
		if e := c.call(im); e != c.want {
			t.Errorf("%s: error %d, not %d", c.what, e, c.want)
		}
		if !bytes.Equal(now(), b) {
			t.Errorf("%s: something has changed", c.what)
		}
	}
	// The greatest count, and the table becomes the active disk's own: its clusters have no more.
	im, b, now := with(cluster, 65535)
	ok(t, im.Share(nil))
	b = now()
	if e := im.Write(edit(5000, "x")); e != api.ErrLimit || !bytes.Equal(now(), b) {
		t.Error("a cluster's is the greatest:", e)
	}
}

// all: every call, at any numbers; those that are refused have changed nothing.
func all(t *testing.T, w *world, r *rand.Rand) {
	t.Helper()
	n := func() int64 {
		if r.Intn(8) == 0 {
			return extremes[r.Intn(len(extremes))]
		}
		return r.Int63n(w.Host + 3)
	}
	g := func() int64 { return r.Int63n(w.Guest() + 2) }
	list := make([]image.Spot, r.Intn(3))
	for i := range list {
		list[i] = image.Spot{Table: n(), Index: r.Int63n(70)}
		if r.Intn(4) == 0 {
			list[i].Table = 0
		}
	}
	for name, call := range map[string]func() api.Errno{
		"Write":   func() api.Errno { return w.Write(image.Edit{At: r.Int63n(w.Header.Size), B: pattern(r.Intn(2000), 1)}) },
		"Punch":   func() api.Errno { return w.Punch(r.Intn(3), g(), g()) },
		"Share":   func() api.Errno { return w.Share(nil) },
		"Release": func() api.Errno { return w.Release(n(), nil) },
		"Adopt":   func() api.Errno { return w.Adopt(n()) },
		"Move":    func() api.Errno { return w.Move(n(), n(), list...) },
		"Pull":    func() api.Errno { _, e := w.Pull(g()); return e },
		"Alone":   func() api.Errno { return w.Alone(n()) },
		"Read":    func() api.Errno { _, e := w.View(n()).Read(r.Int63n(w.Header.Size), r.Int63n(5000)); return e },
		"Entry":   func() api.Errno { _, _, e := w.View(n()).Entry(g()); return e },
		"Blank":   func() api.Errno { _, e := w.Blank(g()); return e },
		"Ends":    func() api.Errno { _, _, e := w.Ends(); return e },
	} {
		ahead := w.f.Bytes()
		if e := call(); e != api.OK && !bytes.Equal(w.f.Bytes(), ahead) {
			t.Fatalf("%s: error %d, and something has changed", name, e)
		}
	}
}

// Whatever the tables, the counts and the rows say: every call ends, and none panics.
func TestAnyBytes(t *testing.T) {
	for i, h := range append(kinds(true)[:5], kinds(false)[:5]...) {
		r := rand.New(rand.NewSource(int64(i)))
		good := filled(t, h, 9000)
		b := good.f.Bytes()
		from, to := h.RefsAt().From, int64(len(b))
		for range 40 {
			b := slices.Clone(b)
			for range 1 + r.Intn(40) {
				at := from + r.Int63n(to-from)
				switch r.Intn(3) {
				case 0:
					b[at] = byte(r.Intn(256))
				case 1:
					binary.LittleEndian.PutUint64(b[min(at/8*8, to-8):], uint64(r.Int63n(h.Host+3))*256+uint64(r.Intn(2))<<63)
				case 2:
					b[from+r.Int63n(2*h.Host)/2*2] = byte(r.Intn(4))
				}
			}
			w := good.over(t, b)
			for range 4 {
				all(t, w, r)
			}
		}
	}
}

// Whatever a header is made to say behind Open: no call panics.
func TestHeaderChanged(t *testing.T) {
	r := rand.New(rand.NewSource(5))
	for _, bits := range []int{math.MinInt, -1, 0, 9, 10, 12, 13, math.MaxInt} {
		for _, n := range append([]int64{0, 512, 4096, 65536}, extremes...) {
			for _, change := range []func(h *header.Header){
				func(h *header.Header) { h.Size = n }, func(h *header.Header) { h.Host = n }, func(h *header.Header) { h.Journal = n },
			} {
				w := filled(t, fitted(9, 65536, 400, true), 9000)
				w.Bits = bits
				change(&w.Header)
				for _, v := range []*image.View{w.Active(), w.View(n), w.View(34)} {
					v.Size()
					v.Read(0, 100)
					v.Read(n, r.Int63())
					v.Read(0, n)
					v.Entry(0)
					v.Entry(n)
				}
				w.Write(edit(n, "abc"), edit(0, "abc"))
				w.Punch(0, n, 1)
				w.Share(nil)
				w.Release(n, nil)
				w.Release(40, nil)
				w.Adopt(40)
				w.Move(34, 60, image.Spot{Table: 33})
				w.Pull(n)
				w.Pull(9)
				w.Blank(1)
				w.Alone(n)
				w.Counts()
				w.Ends()
			}
		}
	}
}
