package trim_test

import (
	"bytes"
	"math"
	"slices"
	"testing"

	"fettle/api"
	"fettle/gpt"
	"fettle/header"
	"fettle/image"
	"fettle/parts"
	"fettle/resize"
	"fettle/trim"
)

// TestResize: to each size, from too small to too great; with an error nothing is changed.
func TestResize(t *testing.T) {
	t.Parallel()
	for _, c := range []struct {
		g    *guest
		s    shape
		room int64 // how many sectors the last partition may have
	}{
		{oneFat().mbr(), shape{9, 0, false, 1}, 54},
		{oneFat().gpt(), shape{10, 1, true, 2}, 50},
		{oneExt().mbr(), shape{9, 2, true, 3}, 84},
		{oneExt().gpt(), shape{12, 0, true, 4}, 80},
		{twoVolumes().mbr(), shape{11, 1, false, 5}, 120},
		{twoVolumes().gpt(), shape{9, 0, true, 6}, 116},
	} {
		w := laid(t, c.g, c.s)
		done := map[api.Errno]int{}
		for _, sectors := range append(upTo(c.room+3), math.MinInt64, math.MaxInt64, 32768, 32769, math.MaxInt64/512+1) {
			u := w.open(t)
			l, want := resize.Last(parts.Mem(w.active), sectors)
			e := u.Resize(sectors)
			if e != want || u.Broken() || (e == api.ErrRange) != (sectors > c.room) {
				t.Fatal("to", sectors, "sectors: error", e, "not", want)
			}
			done[e]++
			if e != api.OK {
				if u.Wrote() != 0 || !bytes.Equal(u.Bytes(), w.b) {
					t.Fatal("to", sectors, "sectors: something was written")
				}
				continue
			}
			now := *w
			now.active = bytes.Clone(w.active)
			for _, p := range l {
				copy(now.active[p.At:], p.B)
			}
			now.shows(t, u.Bytes(), false)
			w.guest.holds(t, now.active)
			m, e := parts.Parse(parts.Mem(now.active))
			ok(t, e)
			if last, _ := m.Last(); last.Ext.To-last.Ext.From != 512*sectors {
				t.Fatal("to", sectors, "sectors: it has another size")
			}
		}
		if done[api.OK] < 15 || done[api.ErrSmall] < 10 || done[api.ErrRange] < 5 {
			t.Error("too few:", done)
		}
	}
}

func upTo(n int64) (list []int64) {
	for i := int64(-2); i <= n; i++ {
		list = append(list, i)
	}
	return list
}

// TestResizeNothing: disks without a right table, a partition, a volume that is known.
func TestResizeNothing(t *testing.T) {
	for _, c := range []struct {
		g    *guest
		want api.Errno
	}{
		{newGuest(60), api.ErrMagic},
		{newGuest(60).mbr(), api.ErrNone},
		{newGuest(60).gpt(), api.ErrNone},
		{func() *guest { g := newGuest(60); g.fat(6, 30); g.strange(40, 9); return g.mbr() }(), api.ErrMagic},
	} {
		w := newWorld(t, c.g, 9)
		u := w.open(t)
		w.put(t, u, upTo(59)[2:]...)
		w.take(t, u)
		u = w.open(t)
		for _, n := range []int64{-1, 0, 1, 9, 20, 40, 100000} {
			if e := u.Resize(n); e != c.want || u.Wrote() != 0 || u.Broken() {
				t.Error("to", n, "sectors: error", e, "not", c.want)
			}
		}
	}
}

// TestResizeFull: there is no room for what must be written: nothing is.
func TestResizeFull(t *testing.T) {
	g := oneExt().mbr()
	w := newWorld(t, g, 9)
	h, e := header.Decode(w.b)
	ok(t, e)
	h.Host = h.First() + 2 + int64(len(g.d))/512 // a top table's copy and a table more than the disk takes
	h.Journal = h.Least()
	b, e := image.Make(h)
	ok(t, e)
	w.b = b
	u := w.open(t)
	for n := range int64(len(g.d)) / 512 {
		if e := u.Write(image.Edit{At: 512 * n, B: g.d[512*n : 512*n+512]}); e != api.OK {
			t.Fatal(e)
		}
	}
	full := false
	for _, name := range []string{"a", "b", "c"} {
		if e := u.Snap(name); e == api.ErrFull {
			full = true
		}
	}
	w.take(t, u)
	u = w.open(t)
	if e := u.Resize(70); !full || e != api.ErrFull || u.Wrote() != 0 || u.Broken() {
		t.Error("Resize:", e, full)
	}
	w.shows(t, u.Bytes(), false)
}

// TestMend: a table with two copies, of which one is spoilt, at each of its places; both
// are; none is; there is none.
func TestMend(t *testing.T) {
	for _, s := range []shape{{9, 0, true, 1}, {10, 1, false, 2}, {12, 2, true, 3}} {
		w := laid(t, twoVolumes().gpt(), s)
		n := int64(len(w.d)) / 512
		table, e := gpt.Parse(parts.Mem(w.active))
		ok(t, e)
		first := []int64{512 + 1, 512 + 16, 512 + 60, 512 + 300, 1024, 1024 + 33}
		second := []int64{512*(n-1) + 1, 512*(n-1) + 16, 512*(n-1) + 511, 512 * (n - 4), 512*(n-4) + 200}
		spoilt := func(places ...int64) *trim.Tool {
			u := w.open(t)
			for _, at := range places {
				ok(t, u.Write(image.Edit{At: at, B: []byte{w.active[at] ^ 3}}))
			}
			return u
		}
		for _, at := range slices.Concat(first, second) {
			u := spoilt(at)
			if _, e := u.Dry(); e == api.OK {
				t.Fatal("the table is right, with another byte at", at)
			}
			if k, e := u.Mend(); k != 4 || e != api.OK {
				t.Fatal("Mend:", k, e)
			}
			d, e := u.Image().Active().Read(0, 512*n)
			ok(t, e)
			got, e := gpt.Parse(parts.Mem(d))
			if e != api.OK || !slices.Equal(got.List, table.List) {
				t.Fatal("it isn't mended:", e)
			}
			w.guest.holds(t, d)
			wrote := u.Wrote()
			if k, e := u.Mend(); k != 0 || e != api.OK || u.Wrote() != wrote {
				t.Fatal("a second one:", k, e)
			}
		}
		u := spoilt(first[0], second[0])
		b, wrote := u.Bytes(), u.Wrote()
		if k, e := u.Mend(); k != 0 || e != api.ErrMagic || u.Wrote() != wrote || !bytes.Equal(u.Bytes(), b) || u.Broken() {
			t.Error("both are spoilt:", k, e)
		}
		u = spoilt(first[2], second[2]) // a sum, and a byte behind the header
		if k, e := u.Mend(); k != 0 || e != api.ErrSum {
			t.Error("both are spoilt:", k, e)
		}
		u = w.open(t)
		if k, e := u.Mend(); k != 0 || e != api.OK || u.Wrote() != 0 {
			t.Error("a right one:", k, e)
		}
		w.shows(t, u.Bytes(), false)
	}
	for _, g := range []*guest{twoVolumes().mbr(), newGuest(40)} {
		w := newWorld(t, g, 9)
		u := w.open(t)
		w.put(t, u, 0, 1, 2, 30)
		w.take(t, u)
		if k, e := u.Mend(); k != 0 || e != api.ErrMagic || u.Broken() {
			t.Error("there is none:", k, e)
		}
		w.shows(t, u.Bytes(), false)
	}
}

// nones: how many guest's clusters are read from behind, or are nowhere, by a top table.
func nones(t *testing.T, b []byte, top func(first int64) int64) (n int) {
	x := right(t, b)
	for c := range x.Guest {
		if v, _, _ := x.Way(top(x.First), c); v == 0 {
			n++
		}
	}
	return n
}

func active(first int64) int64 { return first - 1 }

// TestPull: all that is read from behind is held by the image, and then it is alone; with
// a snapshot that reads from behind it isn't.
func TestPull(t *testing.T) {
	pulled, crossed := 0, 0
	eachWorld(t, func(t *testing.T, w *world, s shape) {
		u := w.open(t)
		want := nones(t, w.b, active)
		if s.behind == 0 {
			if n, e := u.Pull(); n != 0 || e != api.OK || u.Wrote() != 0 {
				t.Fatal("nothing is behind it:", n, e)
			}
			if e := u.Alone(); e != api.ErrState {
				t.Fatal("Alone:", e)
			}
			return
		}
		if e := u.Alone(); e != api.ErrCross && want > 0 {
			t.Fatal("Alone:", e)
		}
		if n, e := u.Pull(); n != want || e != api.OK {
			t.Fatal("Pull:", n, e, "not", want)
		}
		pulled += want
		w.shows(t, u.Bytes(), false)
		if nones(t, u.Bytes(), active) != 0 {
			t.Fatal("there is still something that is read from behind")
		}
		wrote := u.Wrote()
		if n, e := u.Pull(); n != 0 || e != api.OK || u.Wrote() != wrote {
			t.Fatal("a second one:", n, e)
		}
		for name, top := range named(u.Bytes(), right(t, u.Bytes())) {
			if nones(t, u.Bytes(), func(int64) int64 { return top }) > 0 {
				if e := u.Alone(); e != api.ErrCross {
					t.Fatal("a snapshot reads from behind:", e)
				}
				crossed++
			}
			ok(t, u.Drop(name))
		}
		ok(t, u.Alone())
		w.snaps, w.back = nil, nil
		w.shows(t, u.Bytes(), false)
		again, e := trim.Open(u.Bytes()) // nothing is behind it
		ok(t, e)
		w.shows(t, again.Bytes(), false)
	})
	if pulled < 150 || crossed < 5 {
		t.Error("too few:", pulled, crossed)
	}
}

// TestPullFull: there is no cluster for all that is behind: as many as were are told.
func TestPullFull(t *testing.T) {
	base := laid(t, twoVolumes().mbr(), shape{bits: 9, seed: 3})
	h := fitted(9, int64(len(base.d)), true)
	h.Host = h.First() + 60
	h.Journal = h.Least()
	b, e := image.Make(h)
	ok(t, e)
	w := &world{guest: base.guest, b: b, behind: [][]byte{base.b}, back: base.active}
	w.take(t, w.open(t))
	u := w.open(t)
	n, e := u.Pull()
	if e != api.ErrFull || n != int(h.Guest())-nones(t, u.Bytes(), active) || n < 40 || u.Broken() {
		t.Error("Pull:", n, e)
	}
	w.shows(t, u.Bytes(), false)
	if again, e := u.Pull(); again != 0 || e != api.ErrFull {
		t.Error("again:", again, e)
	}
}

// TestPullShort: the disk behind is shorter than the guest's, or longer.
func TestPullShort(t *testing.T) {
	for _, sectors := range []int64{1, 20, 33, 59, 61, 200} {
		small := newWorld(t, newGuest(sectors), 9)
		v := small.open(t)
		small.put(t, v, upTo(sectors - 1)[2:]...)
		w := newWorld(t, oneFat().mbr(), 10, v.Bytes())
		u := w.open(t)
		n, e := u.Pull()
		if e != api.OK || n != 30 {
			t.Error(sectors, "sectors behind:", n, e)
		}
		w.shows(t, u.Bytes(), false)
		ok(t, u.Alone())
		w.back = nil
		w.shows(t, u.Bytes(), false)
	}
}
