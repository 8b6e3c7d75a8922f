package trim_test

import (
	"bytes"
	"reflect"
	"slices"
	"testing"

	"fettle/api"
	"fettle/image"
	"fettle/maps"
	"fettle/trim"
)

// eachWorld: a test of each disk in each shape.
func eachWorld(t *testing.T, do func(t *testing.T, w *world, s shape)) {
	for _, g := range guests() {
		for _, s := range shapes() {
			do(t, laid(t, g(), s), s)
		}
	}
}

// TestSparsify: what nothing reaches is given back, if it is the active disk's own; all
// else is as it was; Dry writes nothing, and tells it.
func TestSparsify(t *testing.T) {
	given, kept := 0, 0
	eachWorld(t, func(t *testing.T, w *world, s shape) {
		_, whole, _ := w.own(right(t, w.b), w.b)
		u := w.open(t)
		dry, e := u.Dry()
		ok(t, e)
		if u.Wrote() != 0 || u.Waiting() != 0 || !bytes.Equal(u.Bytes(), w.b) {
			t.Fatal("Dry writes something")
		}
		if !slices.Equal(slices.Concat(dry.Steps...), whole) || len(dry.Steps) != steps(len(whole)) || dry.Bytes != int64(len(whole))<<s.bits || !slices.Equal(dry.Free, w.free()) {
			t.Fatalf("Dry: %+v, not %v", dry.Steps, whole)
		}
		if dry.Kind == maps.Zero != (s.behind > 0) {
			t.Fatal("Dry: kind", dry.Kind)
		}
		r, n, e := u.Sparsify()
		if e != api.OK || n != len(dry.Steps) || !reflect.DeepEqual(r, dry) {
			t.Fatal("Sparsify:", n, e)
		}
		x := w.shows(t, u.Bytes(), true)
		d := x.Disk(x.First-1, w.back)
		w.guest.holds(t, d)
		want := bytes.Clone(w.active)
		for _, c := range whole {
			clear(want[c<<s.bits : (c+1)<<s.bits])
			if v, _, _ := x.Way(x.First-1, c); v != uint64(dry.Kind) {
				t.Fatal("cluster", c, "has become", v)
			}
		}
		if !bytes.Equal(d, want) {
			t.Fatal("other sectors are given back")
		}
		if _, left, _ := w.own(x, u.Bytes()); len(left) > 0 {
			t.Fatal("there is still something of its own in what is free:", left)
		}
		if u.Len() > int64(len(w.b)) {
			t.Fatal("the file is longer")
		}
		if r, n, e := u.Sparsify(); e != api.OK || n != 0 || r.Bytes != 0 || !bytes.Equal(u.Bytes()[:512], w.b[:512]) {
			t.Fatal("a second one:", n, e)
		}
		given += len(whole)
		for c := range x.Guest {
			if v, _, _ := x.Way(x.First-1, c); v > 1 && w.free().Covers(api.Ext{From: c << s.bits, To: (c + 1) << s.bits}) {
				kept++ // a snapshot's, too
			}
		}
	})
	if given < 300 || kept == 0 {
		t.Error("too few:", given, kept)
	}
}

// TestSnapThenSparsify: what the snapshot shows isn't given back (example 1).
func TestSnapThenSparsify(t *testing.T) {
	w := laid(t, twoVolumes().mbr(), shape{bits: 9, seed: 3})
	u := w.open(t)
	if dry, e := u.Dry(); e != api.OK || dry.Bytes == 0 {
		t.Error("there is nothing to be given back")
	}
	ok(t, u.Snap("s"))
	if dry, e := u.Dry(); e != api.OK || dry.Bytes != 0 {
		t.Error("Dry:", dry.Bytes, e)
	}
	used := u.Bytes()
	if _, n, e := u.Sparsify(); n != 0 || e != api.OK || !bytes.Equal(u.Bytes(), used) {
		t.Error("Sparsify:", n, e)
	}
	ok(t, u.Drop("s"))
	if _, n, e := u.Sparsify(); n == 0 || e != api.OK {
		t.Error("without it:", n, e)
	}
}

// TestSparsifyNoTable: of a disk without a right table nothing is given back.
func TestSparsifyNoTable(t *testing.T) {
	w := newWorld(t, newGuest(40), 9)
	u := w.open(t)
	w.put(t, u, 0, 1, 2, 30)
	w.take(t, u)
	if r, e := u.Dry(); e != api.ErrMagic || !empty(r) {
		t.Error("Dry:", e)
	}
	if r, n, e := u.Sparsify(); e != api.ErrMagic || !empty(r) || n != 0 || u.Broken() {
		t.Error("Sparsify:", n, e)
	}
	w.shows(t, u.Bytes(), false)
}

// TestSqueeze: clusters of noughts are given back, and a second one finds none.
func TestSqueeze(t *testing.T) {
	given := 0
	eachWorld(t, func(t *testing.T, w *world, s shape) {
		_, _, blank := w.own(right(t, w.b), w.b)
		u := w.open(t)
		if n, e := u.Squeeze(); n != len(blank) || e != api.OK {
			t.Fatal("Squeeze:", n, e, "not", len(blank))
		}
		x := w.shows(t, u.Bytes(), false)
		for _, c := range blank {
			if v, _, _ := x.Way(x.First-1, c); v > 1 || (v == 1) != (s.behind > 0) {
				t.Fatal("cluster", c, "has become", v)
			}
		}
		if u.Len() > int64(len(w.b)) {
			t.Fatal("the file is longer")
		}
		wrote := u.Wrote()
		if n, e := u.Squeeze(); n != 0 || e != api.OK || u.Wrote() != wrote {
			t.Fatal("a second one:", n, e)
		}
		given += len(blank)
	})
	if given < 40 {
		t.Error("too few:", given)
	}
	// with a snapshot nothing is its own; a disk without a table may be squeezed
	w := newWorld(t, &guest{d: make([]byte, 512*40), reached: make([]bool, 40)}, 9)
	u := w.open(t)
	for c := range int64(21) {
		w.put(t, u, c)
	}
	ok(t, u.Snap("s"))
	if n, e := u.Squeeze(); n != 0 || e != api.OK {
		t.Error("a snapshot's:", n, e)
	}
	ok(t, u.Drop("s"))
	if n, e := u.Squeeze(); n != 21 || e != api.OK {
		t.Error("without it:", n, e)
	}
}

// holes: of the file's clusters those that are free, and below one that is in use.
func holes(t *testing.T, b []byte) (n int, end int64) {
	t.Helper()
	x := right(t, b)
	high := int64(0)
	for c := range x.Host {
		if x.Count(c) > 0 {
			high = c
		}
	}
	for c := range high {
		if x.Count(c) == 0 {
			n++
		}
	}
	return n, (high + 1) * x.Cluster
}

// compacted: Compact moves as many clusters as it must, and the file ends behind the last
// one; all is shown as ahead. How many were moved.
func compacted(t *testing.T, w *world, u *trim.Tool) int {
	t.Helper()
	w.take(t, u)
	x := right(t, w.b)
	used, above := 0, 0
	for c := range x.Host {
		if x.Count(c) > 0 {
			used++
		}
	}
	for c := range x.Host {
		if x.Count(c) > 0 && c >= int64(used) {
			above++
		}
	}
	n, e := u.Compact()
	if n != above || e != api.OK {
		t.Fatal("Compact:", n, e, "not", above)
	}
	w.shows(t, u.Bytes(), false)
	if left, end := holes(t, u.Bytes()); left != 0 || u.Len() != end || end != int64(used)*x.Cluster || end > int64(len(w.b)) {
		t.Fatal("holes:", left, "the file ends at", u.Len(), "not", end)
	}
	if u.Waiting() != 0 {
		t.Fatal("it isn't safe")
	}
	wrote := u.Wrote()
	if n, e := u.Compact(); n != 0 || e != api.OK || u.Wrote() != wrote {
		t.Fatal("a second one:", n, e)
	}
	return n
}

// TestCompact: behind Sparsify, behind a snapshot that is gone, with nothing to be done.
func TestCompact(t *testing.T) {
	moved, none := 0, 0
	eachWorld(t, func(t *testing.T, w *world, s shape) {
		u := w.open(t)
		if compacted(t, w, u) == 0 {
			none++
		}
		if _, _, e := u.Sparsify(); e != api.OK {
			t.Fatal("Sparsify:", e)
		}
		moved += compacted(t, w, u)
		if s.snap {
			ok(t, u.Drop("a"))
			moved += compacted(t, w, u)
			ok(t, u.Back("b-2"))
			moved += compacted(t, w, u)
		}
		_, e := u.Squeeze()
		ok(t, e)
		moved += compacted(t, w, u)
		ok(t, u.Snap("more"))
		ok(t, u.Write(image.Edit{At: 0, B: w.active}))
		ok(t, u.Drop("more"))
		moved += compacted(t, w, u)
	})
	if moved < 500 || none < 5 {
		t.Error("too few:", moved, none)
	}
}

// TestCompactTables: tables of guests' clusters and of snapshots are among what is moved,
// and clusters to which several refer.
func TestCompactTables(t *testing.T) {
	for _, bits := range []int{9, 10, 11} {
		w := newWorld(t, newGuest(300), bits)
		u := w.open(t)
		last := u.Image().Guest() - 1
		var list []int64
		for c := range last / 2 {
			list = append(list, c)
		}
		w.put(t, u, list...) // the lowest ones: they are given back
		ok(t, u.Snap("zero"))
		w.put(t, u, list...)
		ok(t, u.Snap("one"))
		w.put(t, u, last, 0)
		ok(t, u.Snap("two"))
		w.put(t, u, last-1, 1)
		ok(t, u.Drop("zero"))
		w.take(t, u)
		was := right(t, w.b)
		if compacted(t, w, u) < 6 {
			t.Error("too few are moved")
		}
		is := right(t, u.Bytes())
		for name, top := range named(w.b, was) {
			if named(u.Bytes(), is)[name] == top {
				t.Error("a snapshot's table isn't moved:", name)
			}
		}
		tables, shared := 0, 0
		for _, top := range is.Tops() {
			for _, c := range []int64{0, 1, last} {
				if _, n, table := is.Way(top, c); table != 0 {
					tables++
					if is.Count(n) > 1 || is.Count(table) > 1 {
						shared++
					}
				}
			}
		}
		if tables < 6 || shared < 3 {
			t.Error("the test's image is another one:", tables, shared)
		}
		for _, name := range []string{"one", "two"} {
			ok(t, u.Back(name))
			w.take(t, u)
			compacted(t, w, u)
		}
	}
}

// TestCompactCuts: a file that is longer than its last cluster in use, by less than a
// cluster, by many, by none.
func TestCompactCuts(t *testing.T) {
	w := laid(t, oneFat().gpt(), shape{bits: 10, seed: 3})
	u := w.open(t)
	compacted(t, w, u)
	b := u.Bytes()
	for _, more := range []int{0, 1, 511, 512, 1023, 1024, 9999} {
		u, e := trim.Open(append(bytes.Clone(b), pattern(int64(more), 4)...))
		ok(t, e)
		n, e := u.Compact()
		if n != 0 || e != api.OK || !bytes.Equal(u.Bytes(), b) || !bytes.Equal(u.Crash(), b) || (u.Wrote() > 0) != (more > 0) {
			t.Error(more, "more:", n, e, u.Len())
		}
	}
	// an image that holds nothing
	empty := newWorld(t, newGuest(40), 9)
	v := empty.open(t)
	if n, e := v.Compact(); n != 0 || e != api.OK || !bytes.Equal(v.Bytes(), empty.b) {
		t.Error("one that holds nothing:", n, e)
	}
}

// TestCompactFull: no cluster is free.
func TestCompactFull(t *testing.T) {
	w := newWorld(t, newGuest(400), 9)
	u := w.open(t)
	c := int64(0)
	for ; ; c++ {
		if e := u.Write(image.Edit{At: 512 * (c % 400), B: pattern(512, c)}); e == api.ErrFull {
			break
		} else if e != api.OK {
			t.Fatal(e)
		}
		if c%100 == 99 {
			ok(t, u.Snap("n"+string(rune('0'+c/100))))
		}
	}
	w.take(t, u)
	if _, low, e := u.Image().Ends(); e != api.OK || low != -1 {
		t.Fatal("there is room:", low)
	}
	if n, e := u.Compact(); n != 0 || e != api.OK || !bytes.Equal(u.Bytes(), w.b) {
		t.Error("Compact:", n, e)
	}
	ok(t, u.Drop("n0"))
	compacted(t, w, u)
}

// TestCompactSpoilt: a file that isn't right any longer is told, and nothing is moved.
func TestCompactSpoilt(t *testing.T) {
	w := laid(t, oneFat().mbr(), shape{bits: 9, snap: true, seed: 3})
	u := w.open(t)
	ok(t, u.Drop("a"))
	_, _, e := u.Sparsify()
	ok(t, e)
	if n, _ := holes(t, u.Bytes()); n == 0 {
		t.Fatal("there is no hole")
	}
	at := u.Image().SnapsAt().From + 7*32
	ok(t, u.File.Write(at, []byte{1}))
	b := u.Bytes()
	if n, e := u.Compact(); n != 0 || e != api.ErrName || u.Broken() || !bytes.Equal(u.Bytes(), b) {
		t.Error("Compact:", n, e)
	}
	ok(t, u.File.Write(at, []byte{0}))
	compacted(t, w, u)
}
