package image_test

import (
	"bytes"
	"math"
	"math/rand"
	"slices"
	"testing"

	"fettle/api"
	"fettle/image"
	"fettle/maps"
)

// same: a call that is refused has changed nothing.
func same(t *testing.T, w *world, what string, want api.Errno, call func() api.Errno) {
	t.Helper()
	ahead := w.f.Bytes()
	if e := call(); e != want {
		t.Errorf("%s: error %d, not %d", what, e, want)
	}
	if !bytes.Equal(w.f.Bytes(), ahead) {
		t.Errorf("%s: something has changed", what)
	}
	w.look(t)
}

func TestReadEdges(t *testing.T) {
	for _, backed := range []bool{false, true} {
		for _, h := range kinds(backed) {
			w := empty(t, h, 3000)
			if h.Size > 2048 {
				w.write(t, edit(700, "abc"), edit(h.Size-2, "yz"))
			}
			places := append([]int64{0, 1, 511, 512, 513, h.Cluster() - 1, h.Cluster(), h.Cluster() + 1, h.Size - 1, h.Size, h.Size + 1, h.Guest() * h.Cluster()}, extremes...)
			for _, at := range places {
				for _, n := range places {
					b, e := w.Active().Read(at, n)
					switch in := at >= 0 && n >= 0 && at <= h.Size && n <= h.Size-at; {
					case in && (e != api.OK || !bytes.Equal(b, w.active[at:at+n])):
						t.Fatalf("%+v: Read(%d, %d): error %d, or other bytes", h, at, n, e)
					case !in && (e != api.ErrRange || len(b) != 0):
						t.Fatalf("%+v: Read(%d, %d): %d bytes, error %d", h, at, n, len(b), e)
					}
				}
			}
			for _, g := range append([]int64{h.Guest(), h.Guest() + 1}, extremes...) {
				if g >= 0 && g < h.Guest() {
					continue
				}
				if x, own, e := w.Active().Entry(g); x != (maps.Entry{}) || own || e != api.ErrRange {
					t.Fatalf("%+v: Entry(%d) = %+v, %v, %d", h, g, x, own, e)
				}
				if b, e := w.Blank(g); b || e != api.ErrRange {
					t.Fatalf("%+v: Blank(%d) = %v, %d", h, g, b, e)
				}
				if b, e := w.Pull(g); b || e != api.ErrRange {
					t.Fatalf("%+v: Pull(%d) = %v, %d", h, g, b, e)
				}
				same(t, w, "Punch beyond", api.ErrRange, func() api.Errno { return w.Punch(maps.None, g) })
			}
		}
	}
}

// The first byte that is written makes a table, and a cluster, in this order.
func TestFirstByte(t *testing.T) {
	for _, h := range kinds(false) {
		w := empty(t, h, -1)
		ahead := w.f.Bytes()
		at := h.Size - 1
		w.write(t, image.Edit{At: at, B: []byte("x")})
		w.look(t)
		x, first, g := w.raw(t), h.First(), h.Guest()-1
		v, cluster, table := x.Way(first-1, g)
		if table != first || cluster != first+1 || v != 1<<63+uint64(first+1)*256 {
			t.Errorf("%+v: the table in %d, the cluster %d, the entry %x", h, table, cluster, v)
		}
		if got, own, e := w.Active().Entry(g); got != (maps.Entry{Kind: maps.Data, Cluster: first + 1, Own: true}) || !own || e != api.OK {
			t.Errorf("%+v: Entry = %+v, %v, %d", h, got, own, e)
		}
		if w.f.Len() != (first+2)*h.Cluster() || x.Refs[0].Index != g/h.Entries() || !x.Refs[0].Own {
			t.Errorf("%+v: the file has %d bytes, the top table %+v", h, w.f.Len(), x.Refs[0])
		}
		if b := w.f.Bytes(); !bytes.Equal(b[:h.Cluster()], ahead[:h.Cluster()]) || !bytes.Equal(b[h.SnapsAt().From:h.SnapsAt().To], ahead[h.SnapsAt().From:h.SnapsAt().To]) {
			t.Errorf("%+v: the header or the rows have changed", h)
		}
		if w.f.Waiting() != 0 {
			t.Errorf("%+v: it isn't safe", h)
		}
		// Written again, it is changed where it stands.
		counts, _ := w.Counts()
		w.write(t, image.Edit{At: at, B: []byte("y")})
		w.look(t)
		if again, _ := w.Counts(); !slices.Equal(counts, again) {
			t.Errorf("%+v: other counts", h)
		}
		if now := w.raw(t); !slices.Equal(now.Refs, x.Refs) {
			t.Errorf("%+v: other references", h)
		}
	}
}

// Example 1: behind a snapshot a write of one byte makes a table, and a cluster.
func TestByteBehindSnapshot(t *testing.T) {
	w := empty(t, fitted(9, 65536, 400, false), -1)
	first := w.First()
	w.write(t, edit(700, "ab"), edit(5000, "cd"))
	w.look(t)
	ok(t, w.share(0))
	if w.at[0] != first+3 {
		t.Error("the copy of the top table is in", w.at[0])
	}
	w.look(t)
	for _, r := range w.raw(t).Refs {
		if r.Cluster == first && r.Own {
			t.Error("a table that two refer to is Own")
		}
	}
	for _, v := range []*image.View{w.Active(), w.View(w.at[0])} {
		for _, g := range []int64{0, 1, 9, 63} {
			if _, own, e := v.Entry(g); own || e != api.OK {
				t.Error("its own behind a snapshot:", g, e)
			}
		}
		if x, own, e := v.Entry(64); x.Kind != maps.None || !own || e != api.OK {
			t.Error("where there is no table:", x, own, e)
		}
	}
	w.write(t, edit(701, "x"))
	w.look(t)
	counts, _ := w.Counts()
	// The table, and its copy; the cluster that both refer to; that of the snapshot alone; and the new one.
	if want := []int{1, 1, 2, 1, 1, 1, 0}; !slices.Equal(counts[first:first+7], want) {
		t.Error("the counts are", counts[first:first+7])
	}
	for _, c := range []struct {
		v    *image.View
		g    int64
		want maps.Entry
		own  bool
	}{
		{w.Active(), 1, maps.Entry{Kind: maps.Data, Cluster: first + 5, Own: true}, true},
		{w.Active(), 9, maps.Entry{Kind: maps.Data, Cluster: first + 2}, false},
		{w.Active(), 3, maps.Entry{}, true},
		{w.View(w.at[0]), 1, maps.Entry{Kind: maps.Data, Cluster: first + 1}, true},
		{w.View(w.at[0]), 9, maps.Entry{Kind: maps.Data, Cluster: first + 2}, false},
	} {
		if x, own, e := c.v.Entry(c.g); x != c.want || own != c.own || e != api.OK {
			t.Errorf("Entry(%d) = %+v, %v, %d", c.g, x, own, e)
		}
	}
	ok(t, w.release(0))
	w.look(t)
	if x, own, e := w.Active().Entry(9); !own || e != api.OK || x.Own {
		t.Error("behind the release:", x, own, e)
	}
}

// Edits come one behind the other: the last one holds, whatever they cross.
func TestOneBehindTheOther(t *testing.T) {
	for _, backed := range []bool{false, true} {
		for _, h := range kinds(backed)[:5] {
			r := rand.New(rand.NewSource(4))
			for range 12 {
				w := empty(t, h, 5000)
				if r.Intn(2) == 0 {
					w.write(t, image.Edit{At: 0, B: pattern(3000, 5)})
					ok(t, w.share(1))
				}
				var edits []image.Edit
				for range 1 + r.Intn(12) {
					at := r.Int63n(6000)
					edits = append(edits, image.Edit{At: at, B: pattern(r.Intn(1500), r.Int63())})
				}
				w.write(t, edits...)
				w.look(t)
			}
		}
	}
}

// What is handed in isn't changed, and not kept.
func TestEditsAreCopied(t *testing.T) {
	w := empty(t, fitted(9, 65536, 400, false), -1)
	b := pattern(4096, 6)[:700:4096]
	kept := slices.Clone(b[:4096])
	w.write(t, image.Edit{At: 512, B: b}, image.Edit{At: 900, B: b})
	if !bytes.Equal(b[:4096], kept) {
		t.Error("the bytes that were handed in have changed")
	}
	clear(b[:4096])
	w.look(t)
	p, _ := w.Active().Read(512, 700)
	clear(p)
	w.look(t)
}

// A Write of nothing is nothing.
func TestWriteNothing(t *testing.T) {
	w := empty(t, fitted(9, 65536, 400, false), -1)
	for _, edits := range [][]image.Edit{nil, {{}}, {{At: 65536}}, {{At: 7, B: []byte{}}, {At: 512}}} {
		same(t, w, "nothing", api.OK, func() api.Errno { return w.Write(edits...) })
	}
	if w.f.Wrote() != 0 {
		t.Error("something was written")
	}
}

func TestWriteOutside(t *testing.T) {
	w := empty(t, fitted(10, 5*1024-512, 100, false), -1)
	w.write(t, edit(0, "first"))
	size := w.Header.Size
	for _, x := range []image.Edit{edit(size, "a"), edit(size-1, "ab"), edit(-1, "a"), edit(-1, ""), edit(size+1, ""), edit(math.MaxInt64, "a"), edit(math.MaxInt64, ""), edit(math.MinInt64, "a"), edit(5*1024-1, "a")} {
		same(t, w, "outside", api.ErrRange, func() api.Errno { return w.Write(x) })
		same(t, w, "outside, behind a right one", api.ErrRange, func() api.Errno { return w.Write(edit(0, "x"), x, edit(3, "y")) })
	}
	w.write(t, edit(size-2, "ab"))
	w.look(t)
}

// There is no cluster any more: nothing is written, and what there is can be.
func TestNoCluster(t *testing.T) {
	h := fitted(9, 65536, 0, false)
	h.Host = 40
	h.Journal = h.Least()
	h.Host = h.First() + 4 // a table, and three clusters
	w := empty(t, h, -1)
	same(t, w, "too much at once", api.ErrFull, func() api.Errno { return w.Write(image.Edit{B: pattern(4*512, 1)}) })
	w.write(t, image.Edit{At: 512, B: pattern(3*512, 1)})
	w.look(t)
	if _, low, _ := w.Ends(); low != -1 {
		t.Error("there is a cluster left:", low)
	}
	same(t, w, "one more", api.ErrFull, func() api.Errno { return w.Write(edit(0, "a")) })
	same(t, w, "one more, behind others", api.ErrFull, func() api.Errno { return w.Write(edit(512, "a"), edit(65000, "b")) })
	same(t, w, "a snapshot", api.ErrFull, func() api.Errno { return w.share(0) })
	w.write(t, image.Edit{At: 600, B: pattern(1000, 2)})
	w.look(t)
	ok(t, w.Punch(maps.None, 2))
	w.becomes(2, w.under(2))
	w.look(t)
	w.write(t, edit(0, "a"))
	w.look(t)
}

// No room in the journal: nothing is written. What is new takes none, however often it is changed.
func TestNoRoom(t *testing.T) {
	w := empty(t, fitted(9, 65536, 400, false), -1)
	var twice []image.Edit
	for i := range int64(3) {
		twice = append(twice, image.Edit{B: pattern(60000, 20+i)})
	}
	w.write(t, twice...)
	w.look(t)
	same(t, w, "all of it where it stands", api.ErrFull, func() api.Errno { return w.Write(image.Edit{B: pattern(60000, 9)}) })
	w.write(t, image.Edit{At: 512, B: pattern(16*512, 9)})
	w.look(t)
	ok(t, w.share(0))
	w.write(t, image.Edit{B: pattern(60000, 10)})
	w.look(t)
}

// What becomes whole isn't read: a disk behind that refuses doesn't matter then.
func TestBehindRefuses(t *testing.T) {
	h := fitted(9, 65536, 400, true)
	b, _ := image.Make(h)
	f := file(t, b)
	im, e := image.Open(f, bad{api.ErrIO})
	ok(t, e)
	ok(t, im.Write(image.Edit{At: 1024, B: pattern(512, 8)}))
	if p, e := im.Active().Read(1024, 512); e != api.OK || !bytes.Equal(p, pattern(512, 8)) {
		t.Error("a whole cluster", e)
	}
	for _, want := range []api.Errno{api.ErrIO, api.ErrRange, api.ErrState} {
		im, e := image.Open(f, bad{want})
		ok(t, e)
		ahead := f.Bytes()
		if p, e := im.Active().Read(1020, 10); len(p) != 0 || e != want {
			t.Error("Read", len(p), e)
		}
		if e := im.Write(edit(1024, "abc"), edit(9, "abc")); e != want {
			t.Error("Write", e)
		}
		if pulled, e := im.Pull(0); pulled || e != want {
			t.Error("Pull", pulled, e)
		}
		if !bytes.Equal(f.Bytes(), ahead) {
			t.Error("something was written")
		}
		if p, e := im.Active().Read(1024, 512); e != api.OK || !bytes.Equal(p, pattern(512, 8)) {
			t.Error("what the image holds itself", e)
		}
	}
}

// bad is a disk that answers an error to all.
type bad struct{ e api.Errno }

func (b bad) Size() int64                          { return 1 << 40 }
func (b bad) Read(at, n int64) ([]byte, api.Errno) { return nil, b.e }

// odd is a disk that answers other counts of bytes than it is asked for.
type odd struct{ size, more int64 }

func (o odd) Size() int64 { return o.size }
func (o odd) Read(at, n int64) ([]byte, api.Errno) {
	return bytes.Repeat([]byte{7}, int(max(n+o.more, 0))), api.OK
}

// Whatever a disk behind answers: no call panics, and as many bytes are read as were asked for.
func TestOddBehind(t *testing.T) {
	h := fitted(10, 20*1024+512, 100, true)
	for _, size := range append([]int64{0, 1, 1024, h.Size}, extremes...) {
		for _, more := range []int64{-5000, -1, 0, 1, 5000} {
			b, _ := image.Make(h)
			im, e := image.Open(file(t, b), odd{size, more})
			ok(t, e)
			p, e := im.Active().Read(0, h.Size)
			if int64(len(p)) != h.Size || e != api.OK {
				t.Fatal(size, more, len(p), e)
			}
			ok(t, im.Write(edit(3000, "abc")))
			for g := range h.Guest() {
				im.Pull(g)
			}
		}
	}
}

func TestPunch(t *testing.T) {
	for _, backed := range []bool{false, true} {
		for _, h := range kinds(backed)[:5] {
			for _, kind := range []int{maps.None, maps.Zero} {
				w := empty(t, h, 4000)
				w.write(t, image.Edit{At: 100, B: pattern(int(min(h.Size-100, 24*512)), 3)})
				before := w.raw(t)
				all := w.Guest()
				last := (min(h.Size, 24*512+100) - 1) / h.Cluster()
				clusters := []int64{last, 0, 1}
				used, _ := w.Counts()
				for _, g := range clusters {
					if kind == maps.None {
						w.becomes(g, w.under(g))
					} else {
						w.becomes(g, make([]byte, h.Cluster()))
					}
				}
				ok(t, w.Punch(kind, clusters...))
				w.look(t)
				now, _ := w.Counts()
				for g := range all {
					_, cluster, table := before.Way(h.First()-1, g)
					x, own, e := w.Active().Entry(g)
					if !slices.Contains(clusters, g) {
						if x.Cluster != cluster || !own || e != api.OK || table != 0 && now[table] != used[table] || now[cluster] != used[cluster] {
							t.Errorf("%+v: another cluster has changed: %d", h, g)
						}
						continue
					}
					if x != (maps.Entry{Kind: kind}) || !own || e != api.OK || now[cluster] != 0 || now[table] != 1 {
						t.Errorf("%+v: Entry(%d) = %+v, %v, %d", h, g, x, own, e)
					}
				}
				// What isn't a Data any longer can't be punched again, nor twice at once.
				same(t, w, "again", api.ErrState, func() api.Errno { return w.Punch(kind, 0) })
				if last > 3 {
					same(t, w, "twice", api.ErrState, func() api.Errno { return w.Punch(kind, 2, 2) })
					same(t, w, "behind a right one", api.ErrState, func() api.Errno { return w.Punch(kind, 2, 0) })
				}
			}
		}
	}
}

func TestPunchErrors(t *testing.T) {
	w := empty(t, fitted(9, 65536, 400, false), -1)
	w.write(t, image.Edit{B: pattern(4000, 3)})
	for _, kind := range []int{maps.Data, 3, -1, 256, math.MinInt, math.MaxInt} {
		for _, clusters := range [][]int64{nil, {1}, {-1}} {
			same(t, w, "another kind", api.ErrArg, func() api.Errno { return w.Punch(kind, clusters...) })
		}
	}
	same(t, w, "none", api.OK, func() api.Errno { return w.Punch(maps.None) })
	same(t, w, "where there is no table", api.ErrState, func() api.Errno { return w.Punch(maps.None, 100) })
	same(t, w, "where there is nothing", api.ErrState, func() api.Errno { return w.Punch(maps.Zero, 40) })
	same(t, w, "beyond", api.ErrRange, func() api.Errno { return w.Punch(maps.Zero, 1, 128) })
	ok(t, w.share(0))
	same(t, w, "a table that isn't its own", api.ErrState, func() api.Errno { return w.Punch(maps.None, 1) })
	w.write(t, edit(512, "x"))
	same(t, w, "a cluster that isn't its own", api.ErrState, func() api.Errno { return w.Punch(maps.None, 2) })
	same(t, w, "behind one that is", api.ErrState, func() api.Errno { return w.Punch(maps.None, 1, 2) })
	ok(t, w.Punch(maps.None, 1))
	w.becomes(1, w.under(1))
	w.look(t)
	if w.f.Waiting() != 0 {
		t.Error("it isn't safe")
	}
}

func TestBlank(t *testing.T) {
	for _, h := range kinds(true)[:5] {
		w := empty(t, h, 3*4096)
		c := int(h.Cluster())
		w.write(t, image.Edit{At: 0, B: make([]byte, 2*c)}, image.Edit{At: int64(3 * c), B: bytes.Repeat([]byte{0, 1}, c/2)}, image.Edit{At: h.Size - 1, B: []byte{0}})
		ok(t, w.Punch(maps.Zero, 1))
		w.look(t)
		want := map[int64]int{0: 1, h.Guest() - 1: 1}
		for g := range h.Guest() {
			got, e := w.Blank(g)
			if e != api.OK || got != (want[g] == 1) {
				t.Errorf("%+v: Blank(%d) = %v, %d", h, g, got, e)
			}
		}
		w.write(t, image.Edit{At: int64(c) - 1, B: []byte{1}})
		if got, e := w.Blank(0); got || e != api.OK {
			t.Errorf("%+v: with a last byte: %v, %d", h, got, e)
		}
		w.write(t, image.Edit{At: int64(c) - 1, B: []byte{0}})
		if got, e := w.Blank(0); !got || e != api.OK {
			t.Errorf("%+v: without: %v, %d", h, got, e)
		}
		ok(t, w.share(0))
		for g := range h.Guest() {
			if got, e := w.Blank(g); got || e != api.OK {
				t.Errorf("%+v: behind a snapshot: Blank(%d) = %v, %d", h, g, got, e)
			}
		}
		w.look(t)
	}
}

func TestPull(t *testing.T) {
	for _, h := range kinds(true)[:5] {
		for _, behind := range []int{0, 2000, int(h.Size), int(h.Size) + 700} {
			w := empty(t, h, behind)
			w.write(t, edit(h.Cluster()+3, "abc"))
			w.write(t, image.Edit{At: 2 * h.Cluster(), B: make([]byte, h.Cluster())})
			ok(t, w.Punch(maps.Zero, 2))
			if behind > 2000 {
				ok(t, w.share(2))
			}
			same(t, w, "not alone yet", api.ErrCross, func() api.Errno { return w.Alone() })
			for g := range h.Guest() {
				held := g == 1 || g == 2
				pulled, e := w.Pull(g)
				if pulled == held || e != api.OK {
					t.Fatalf("%+v: Pull(%d) = %v, %d", h, g, pulled, e)
				}
				w.look(t)
				x, own, e := w.Active().Entry(g)
				want := maps.Data
				if !held && bytes.Equal(w.under(g), make([]byte, h.Cluster())) || g == 2 {
					want = maps.Zero
				}
				if x.Kind != want || e != api.OK || !held && !own {
					t.Fatalf("%+v: behind Pull(%d): %+v, %v, %d", h, g, x, own, e)
				}
				if pulled, e := w.Pull(g); pulled || e != api.OK {
					t.Fatalf("%+v: Pull(%d) again = %v, %d", h, g, pulled, e)
				}
			}
			if behind > 2000 {
				same(t, w, "a snapshot reads from there", api.ErrCross, func() api.Errno { return w.Alone(w.at[2]) })
				ok(t, w.release(2))
			}
			if w.Behind() == nil {
				t.Fatal("nothing behind, ahead of Alone")
			}
			ok(t, w.Alone())
			alone := h
			alone.Backed = false
			if w.Header != alone || w.Behind() != nil {
				t.Fatalf("%+v: alone it is %+v", h, w.Header)
			}
			w.behind = nil
			w.look(t)
			same(t, w, "alone already", api.ErrState, func() api.Errno { return w.Alone() })
			w = w.over(t, w.f.Bytes())
			w.look(t)
			if w.Header != alone {
				t.Fatalf("%+v: opened again it is %+v", h, w.Header)
			}
		}
	}
}

// A Pull that finds no cluster has changed nothing.
func TestPullWithoutRoom(t *testing.T) {
	h := fitted(9, 65536, 60, true)
	w := empty(t, h, 65536)
	free := h.Host - h.First()
	pulled := int64(0)
	for g := range h.Guest() {
		ahead := w.f.Bytes()
		was, e := w.Pull(g)
		w.look(t)
		if e == api.ErrFull {
			if was || !bytes.Equal(w.f.Bytes(), ahead) {
				t.Fatal("refused, and changed")
			}
			break
		}
		if !was || e != api.OK {
			t.Fatal(g, was, e)
		}
		if x, _, _ := w.Active().Entry(g); x.Kind == maps.Data {
			pulled++
		}
	}
	if pulled != free-1 { // one is the table
		t.Errorf("%d were pulled, %d were free", pulled, free)
	}
	same(t, w, "Alone", api.ErrCross, func() api.Errno { return w.Alone() })
}

func TestAloneErrors(t *testing.T) {
	w := empty(t, fitted(9, 65536, 400, false), -1)
	for _, tops := range [][]int64{nil, {-1}, {w.First() - 1}} {
		same(t, w, "not Backed", api.ErrState, func() api.Errno { return w.Alone(tops...) })
	}
	w = empty(t, fitted(9, 3*512, 100, true), 2000)
	same(t, w, "None", api.ErrCross, func() api.Errno { return w.Alone() })
	w.write(t, image.Edit{B: pattern(3*512, 1)})
	for _, top := range []int64{-1, 0, 1, w.First() - 2, w.Host, math.MaxInt64, math.MinInt64} {
		same(t, w, "a top outside", api.ErrRange, func() api.Errno { return w.Alone(top) })
	}
	ok(t, w.share(0))
	tops := []int64{w.at[0], w.First() - 1, w.at[0]}[:2]
	ok(t, w.Alone(tops...))
	if tops[:3][2] != w.at[0] {
		t.Error("what is behind the list has changed")
	}
	w.behind = nil
	w.look(t)
}
