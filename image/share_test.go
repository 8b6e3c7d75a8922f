package image_test

import (
	"bytes"
	"math/rand"
	"slices"
	"testing"

	"fettle/api"
	"fettle/header"
	"fettle/image"
	"fettle/maps"
	"fettle/rawimage"
	"fettle/tx"
)

// filled: a world with two tables, some clusters, a Zero, two snapshots, and what
// was written behind each of them.
func filled(t *testing.T, h header.Header, behind int) *world {
	t.Helper()
	w := empty(t, h, behind)
	end := h.Size - 1
	w.write(t, image.Edit{At: 600, B: pattern(2*int(h.Cluster()), 31)}, image.Edit{At: end, B: []byte("e")})
	ok(t, w.Punch(maps.Zero, 1))
	w.becomes(1, make([]byte, h.Cluster()))
	ok(t, w.share(1))
	w.write(t, edit(700, "second"), image.Edit{At: 5 * h.Cluster(), B: pattern(700, 32)})
	ok(t, w.share(0))
	w.write(t, edit(710, "third"), edit(end, "f"))
	w.look(t)
	return w
}

func TestShare(t *testing.T) {
	for _, backed := range []bool{false, true} {
		for _, h := range kinds(backed)[:5] {
			w := filled(t, h, 9000)
			ahead := w.raw(t)
			_, low, _ := w.Ends()
			var seen []byte
			var cluster int64
			ok(t, w.Share(func(c *tx.Tx, n int64) api.Errno {
				cluster = n
				seen, _ = c.Get(n*h.Cluster(), h.Cluster())
				w.at[4] = n
				return c.Put(w.rowAt(4), row(4, n))
			}))
			w.snaps[4] = slices.Clone(w.active)
			w.look(t)
			b := w.f.Bytes()
			if cluster != low || !bytes.Equal(seen, b[cluster*h.Cluster():][:h.Cluster()]) {
				t.Errorf("%+v: the copy is in %d, not in %d, or isn't seen", h, cluster, low)
			}
			if !bytes.Equal(seen, b[h.TopAt().From:h.TopAt().To]) {
				t.Errorf("%+v: the copy is another table", h)
			}
			now := w.raw(t)
			tables := map[int64]int{}
			for _, r := range now.Refs {
				if r.Table == h.First()-1 || r.Table == cluster {
					tables[r.Cluster]++
					if r.Own {
						t.Errorf("%+v: a top table's entry is Own", h)
					}
				}
			}
			for n := range h.Host {
				want := ahead.Count(n)
				if tables[n] > 0 || n == cluster {
					want++
				}
				if now.Count(n) != want {
					t.Errorf("%+v: the count of %d is %d", h, n, now.Count(n))
				}
			}
		}
	}
}

// What must come with it is told an error: nothing is changed.
func TestAlsoRefuses(t *testing.T) {
	for _, h := range kinds(true)[:5] {
		w := filled(t, h, 9000)
		for _, want := range []api.Errno{api.ErrName, api.ErrFull, api.ErrIO, 77} {
			same(t, w, "Share", want, func() api.Errno {
				return w.Share(func(c *tx.Tx, n int64) api.Errno {
					c.Put(w.rowAt(5), row(5, n))
					return want
				})
			})
			same(t, w, "Release", want, func() api.Errno {
				return w.Release(w.at[0], func(c *tx.Tx) api.Errno {
					c.Put(w.rowAt(0), make([]byte, 32))
					return want
				})
			})
		}
		// One that commits by itself ends it as well: what is committed can't be once more.
		e := w.Share(func(c *tx.Tx, n int64) api.Errno {
			w.at[5] = n
			c.Put(w.rowAt(5), row(5, n))
			return c.Commit()
		})
		if e != api.ErrState {
			t.Error("committed twice:", e)
		}
	}
}

// What must come with it asks for another change: that isn't begun, and may be read all the same.
func TestWithin(t *testing.T) {
	h := fitted(9, 65536, 400, true)
	w := filled(t, h, 9000)
	inner := func() api.Errno {
		if b, e := w.Active().Read(0, h.Size); e != api.OK || !bytes.Equal(b, w.active) {
			t.Error("Read within a change:", e)
		}
		for name, e := range map[string]api.Errno{
			"Write": w.Write(edit(0, "x")), "Punch": w.Punch(0, 1), "Share": w.Share(nil), "Release": w.Release(w.at[1], nil),
			"Adopt": w.Adopt(w.at[1]), "Move": w.Move(w.at[1], h.Host-1, image.Spot{Index: 1}), "Alone": w.Alone(),
		} {
			if e != api.ErrState {
				t.Error(name, "within a change:", e)
			}
		}
		if pulled, e := w.Pull(4); pulled || e != api.ErrState {
			t.Error("Pull within a change:", pulled, e)
		}
		return api.OK
	}
	ok(t, w.Share(func(c *tx.Tx, n int64) api.Errno {
		w.at[5] = n
		c.Put(w.rowAt(5), row(5, n))
		return inner()
	}))
	w.snaps[5] = slices.Clone(w.active)
	w.look(t)
	ok(t, w.Release(w.at[5], func(c *tx.Tx) api.Errno {
		c.Put(w.rowAt(5), make([]byte, 32))
		return inner()
	}))
	w.snaps[5] = nil
	w.look(t)
	w.write(t, edit(0, "x"))
	w.look(t)
}

// Nothing must come with it.
func TestNothingComesAlso(t *testing.T) {
	w := filled(t, fitted(9, 65536, 400, false), -1)
	_, low, _ := w.Ends()
	ok(t, w.Share(nil))
	counts, _ := w.Counts()
	if counts[low] != 1 {
		t.Error("no cluster is shared")
	}
	if b, e := w.View(low).Read(0, 65536); e != api.OK || !bytes.Equal(b, w.active) {
		t.Error("the copy shows another disk", e)
	}
	w.write(t, edit(0, "behind"))
	if b, e := w.View(low).Read(0, 6); e != api.OK || string(b) == "behind" {
		t.Error("what is written is in the copy", e)
	}
	ok(t, w.Release(low, nil))
	w.look(t)
}

func TestRelease(t *testing.T) {
	for _, backed := range []bool{false, true} {
		for _, h := range kinds(backed)[:5] {
			for _, order := range [][]int{{0, 1}, {1, 0}} {
				w := filled(t, h, 9000)
				for _, slot := range order {
					ok(t, w.release(slot))
					w.look(t) // all counts are right: what nothing refers to is given back
				}
				alone := empty(t, h, 9000)
				alone.write(t, image.Edit{At: 0, B: w.active})
				x := w.raw(t)
				for _, r := range x.Refs {
					if x.Count(r.Cluster) != 1 {
						t.Errorf("%+v: the count of %d is %d", h, r.Cluster, x.Count(r.Cluster))
					}
				}
			}
		}
	}
}

// A top table whose count is above 1 has it one less, and all else stays.
func TestReleaseOfMore(t *testing.T) {
	w := filled(t, fitted(9, 65536, 400, false), -1)
	b := w.f.Bytes()
	b[w.RefsAt().From+2*w.at[0]] = 2
	w = w.over(t, b)
	counts, _ := w.Counts()
	ok(t, w.Release(w.at[0], nil))
	counts[w.at[0]] = 1
	if now, _ := w.Counts(); !slices.Equal(now, counts) {
		t.Error("other counts")
	}
	w.look(t)
	ok(t, w.release(0))
	w.look(t)
}

func TestReleaseErrors(t *testing.T) {
	w := filled(t, fitted(9, 65536, 400, false), -1)
	also := func(*tx.Tx) api.Errno { t.Error("also was called"); return api.OK }
	for _, n := range append([]int64{0, 1, w.First() - 1, w.Host, w.Host + 1}, extremes...) {
		same(t, w, "outside", api.ErrRange, func() api.Errno { return w.Release(n, also) })
		same(t, w, "outside", api.ErrRange, func() api.Errno { return w.Adopt(n) })
	}
	_, low, _ := w.Ends()
	same(t, w, "a free one", api.ErrCount, func() api.Errno { return w.Release(low, also) })
	same(t, w, "a free one", api.ErrState, func() api.Errno { return w.Adopt(low) })
	same(t, w, "the last one", api.ErrState, func() api.Errno { return w.Adopt(w.Host - 1) })
}

func TestAdopt(t *testing.T) {
	for _, backed := range []bool{false, true} {
		for _, h := range kinds(backed)[:5] {
			w := filled(t, h, 9000)
			for _, slot := range []int{0, 1, 1, 0, 1} {
				ok(t, w.adopt(slot))
				w.look(t)
				for _, r := range w.raw(t).Refs {
					if (r.Table == h.First()-1 || r.Table == w.at[slot]) && r.Own {
						t.Errorf("%+v: a top table's entry is Own", h)
					}
				}
				if b := w.f.Bytes(); !bytes.Equal(b[h.TopAt().From:h.TopAt().To], b[w.at[slot]*h.Cluster():][:h.Cluster()]) {
					t.Errorf("%+v: the top table isn't a copy", h)
				}
				w.write(t, edit(3, "again"), edit(h.Size-1, "g"))
				w.look(t)
			}
			ok(t, w.release(0))
			w.look(t)
			ok(t, w.release(1))
			w.look(t)
		}
	}
}

// Every cluster in use is moved to a free one, and back.
func TestMove(t *testing.T) {
	for _, backed := range []bool{false, true} {
		for _, h := range kinds(backed)[:5] {
			w := filled(t, h, 9000)
			x := w.raw(t)
			for n := h.First(); n < h.Host; n++ {
				if x.Count(n) == 0 {
					continue
				}
				for _, to := range []int64{h.Host - 1, n} {
					from := n
					if to == n {
						from = h.Host - 1
					}
					ahead := w.raw(t)
					b := w.f.Bytes()
					ok(t, w.Move(from, to, spots(ahead, from)...))
					w.moved(from, to)
					w.look(t)
					now := w.raw(t)
					if now.Count(from) != 0 || now.Count(to) != ahead.Count(from) || len(now.Refs) != len(ahead.Refs) {
						t.Fatalf("%+v: from %d to %d: other counts", h, from, to)
					}
					if !bytes.Equal(w.f.Bytes()[to*h.Cluster():][:h.Cluster()], b[from*h.Cluster():][:h.Cluster()]) {
						t.Fatalf("%+v: from %d to %d: other bytes", h, from, to)
					}
					owns := func(refs []rawimage.Ref) int {
						n := 0
						for _, r := range refs {
							if r.Own {
								n++
							}
						}
						return n
					}
					if owns(now.Refs) != owns(ahead.Refs) {
						t.Fatalf("%+v: from %d to %d: another is Own", h, from, to)
					}
				}
			}
		}
	}
}

// moved: a snapshot's top table may be in another cluster now.
func (w *world) moved(from, to int64) {
	for i, n := range w.at {
		if n == from {
			w.at[i] = to
		}
	}
}

func TestMoveErrors(t *testing.T) {
	w := filled(t, fitted(9, 65536, 400, false), -1)
	x, first, free := w.raw(t), w.First(), w.Host-2
	move := func(what string, want api.Errno, from, to int64, list ...image.Spot) {
		t.Helper()
		same(t, w, what, want, func() api.Errno { return w.Move(from, to, list...) })
	}
	for _, n := range append([]int64{0, 1, first - 1, w.Host}, extremes...) {
		move("from outside", api.ErrRange, n, free)
		move("to outside", api.ErrRange, first, n, spots(x, first)...)
		move("both outside", api.ErrRange, n, n)
	}
	move("to itself", api.ErrRange, first, first, spots(x, first)...)
	move("a free one to itself", api.ErrRange, free, free)
	var shared int64 // one that two refer to
	for n := first; n < w.Host; n++ {
		count := x.Count(n)
		if count == 0 {
			continue
		}
		list := spots(x, n)
		if n == w.at[n%2] {
			continue
		}
		if count > 1 {
			shared = n
		}
		move("to one in use", api.ErrState, n, w.at[n%2], list...)
		move("without a spot", api.ErrState, n, free)
		move("with one less", api.ErrState, n, free, list[1:]...)
		move("with one more", api.ErrState, n, free, append(slices.Clone(list), list[0])...)
		move("with one more, that isn't there", api.ErrState, n, free, append(slices.Clone(list), image.Spot{Table: -1})...)
		for i, s := range list {
			for _, c := range []struct {
				spot image.Spot
				want api.Errno
			}{
				{image.Spot{Table: s.Table, Index: (s.Index + 7) % 8}, api.ErrState},
				{image.Spot{Table: first, Index: 63}, api.ErrState},
				{image.Spot{Table: 0, Index: 7}, api.ErrState},
				{image.Spot{Table: 0, Index: 8}, api.ErrRange},
				{image.Spot{Table: 0, Index: -1}, api.ErrRange},
				{image.Spot{Table: 0, Index: 1 << 62}, api.ErrRange},
				{image.Spot{Table: first - 1, Index: 64}, api.ErrRange},
				{image.Spot{Table: first - 1, Index: -1}, api.ErrRange},
				{image.Spot{Table: first - 2, Index: 0}, api.ErrRange},
				{image.Spot{Table: 1, Index: 0}, api.ErrRange},
				{image.Spot{Table: -1, Index: 0}, api.ErrRange},
				{image.Spot{Table: w.Host, Index: 0}, api.ErrRange},
				{image.Spot{Table: free, Index: 0}, api.ErrState},
			} {
				wrong := slices.Clone(list)
				wrong[i] = c.spot
				move("with another spot", c.want, n, free, wrong...)
			}
		}
	}
	list := spots(x, shared)
	move("the same spot twice", api.ErrState, shared, free, list[0], list[0])
	move("a free one", api.ErrState, free, free+1)
	move("a free one, with a spot", api.ErrState, free, free+1, image.Spot{Table: first, Index: 0})
}

// What a table that was given back still says of a cluster is no reference.
func TestMoveByStale(t *testing.T) {
	w := empty(t, fitted(9, 65536, 400, false), -1)
	w.write(t, edit(0, "abc"))
	ok(t, w.share(0))
	w.write(t, edit(600, "x")) // a new table, that has the cluster of the first one, too
	stale := w.raw(t).Refs[1].Cluster
	ok(t, w.adopt(0))
	w.look(t)
	x := w.raw(t)
	if x.Count(stale) != 0 {
		t.Fatal("the table is in use still")
	}
	n := w.First() + 1
	if x.Count(n) != 1 {
		t.Fatal("the cluster isn't the snapshot's alone")
	}
	same(t, w, "by a table that is free", api.ErrState, func() api.Errno {
		return w.Move(n, w.Host-1, image.Spot{Table: stale, Index: 0})
	})
	ok(t, w.Move(n, w.Host-1, spots(x, n)...))
	w.look(t)
}

// step: one of all that can be done, at random; what it must be done to as well.
func (w *world) step(t *testing.T, r *rand.Rand) api.Errno {
	slot := r.Intn(api.MaxSnaps)
	g := r.Int63n(w.Guest())
	switch r.Intn(12) {
	case 0:
		if w.snaps[slot] == nil {
			return w.share(slot)
		}
		return w.release(slot)
	case 1:
		if w.snaps[slot] == nil {
			return api.OK
		}
		return w.adopt(slot)
	case 2, 3:
		return w.someMove(t, r)
	case 4, 5:
		_, e := w.Pull(g)
		return e
	case 6, 7:
		kind := r.Intn(2)
		x, own, e := w.Active().Entry(g)
		ok(t, e)
		e = w.Punch(kind, g)
		if may := own && x.Kind == maps.Data; may != (e == api.OK) || !may && e != api.ErrState {
			t.Fatal("Punch", x, own, e)
		}
		if e == api.OK && kind == maps.Zero {
			w.becomes(g, make([]byte, w.Cluster()))
		} else if e == api.OK {
			w.becomes(g, w.under(g))
		}
		return api.OK
	}
	var edits []image.Edit
	for range 1 + r.Intn(3) {
		at := r.Int63n(w.Header.Size)
		edits = append(edits, image.Edit{At: at, B: pattern(r.Intn(int(min(w.Header.Size-at, 4000))+1), r.Int63())})
	}
	e := w.Write(edits...)
	if e == api.OK {
		for _, x := range edits {
			copy(w.active[x.At:], x.B)
		}
	}
	return e
}

// someMove: the highest cluster in use is moved to the lowest free one, or any to any.
func (w *world) someMove(t *testing.T, r *rand.Rand) api.Errno {
	x := w.raw(t)
	high, low, e := w.Ends()
	ok(t, e)
	if low < 0 || high < w.First() {
		return api.OK
	}
	if r.Intn(2) == 0 {
		high = x.Refs[r.Intn(len(x.Refs))].Cluster
	}
	if e := w.Move(high, low, spots(x, high)...); e != api.OK {
		return e
	}
	w.moved(high, low)
	return api.OK
}

// All that can be done, one behind the other: each disk is what it must be, at each step.
func TestAnySteps(t *testing.T) {
	for _, backed := range []bool{false, true} {
		for i, h := range kinds(backed) {
			r := rand.New(rand.NewSource(int64(100 + i)))
			for range 4 {
				w := empty(t, h, r.Intn(int(h.Size)+2000))
				for n := range 90 {
					ahead := w.f.Bytes()
					e := w.step(t, r)
					if e == api.ErrFull {
						if !bytes.Equal(w.f.Bytes(), ahead) {
							t.Fatal("refused, and changed")
						}
					} else {
						ok(t, e)
					}
					w.look(t)
					if n%10 == 9 {
						w = w.over(t, w.f.Crash())
					}
				}
			}
		}
	}
}

// An Own entry in a snapshot's top table is so no longer when that is adopted.
func TestAdoptOfOwn(t *testing.T) {
	w := empty(t, fitted(9, 65536, 400, false), -1)
	w.write(t, edit(700, "abc"))
	ok(t, w.share(0))
	w.write(t, edit(700, "def")) // the table is the snapshot's alone now
	b := w.f.Bytes()
	b[w.at[0]*512+7] |= 0x80
	w = w.over(t, b)
	w.look(t)
	ok(t, w.adopt(0))
	w.look(t)
	for _, r := range w.raw(t).Refs {
		if (r.Table == w.First()-1 || r.Table == w.at[0]) && r.Own {
			t.Errorf("Own still: %+v", r)
		}
	}
}
