package audit_test

import (
	"bytes"
	"math/rand"
	"slices"
	"strconv"
	"testing"

	"fettle/api"
	"fettle/audit"
	"fettle/disk"
	"fettle/header"
	"fettle/image"
	"fettle/maps"
	"fettle/rawimage"
	"fettle/snapshot"
)

// mem is bytes, as a disk.
type mem []byte

func (m mem) Size() int64 { return int64(len(m)) }

func (m mem) Read(at, n int64) ([]byte, api.Errno) {
	if at < 0 || n < 0 || n > int64(len(m))-at {
		return nil, api.ErrRange
	}
	return slices.Clone(m[at : at+n]), api.OK
}

// world is an image, and its file.
type world struct {
	*image.Image
	f      *disk.File
	behind mem
}

// opened: the image in a file.
func opened(t *testing.T, b []byte, behind mem) *world {
	t.Helper()
	f, e := disk.New(b)
	ok(t, e)
	im, e := image.Open(f, behind)
	ok(t, e)
	return &world{Image: im, f: f, behind: behind}
}

// empty: an image that holds nothing; what is behind it ends with noughts.
func empty(t *testing.T, h header.Header) *world {
	t.Helper()
	b, e := image.Make(h)
	ok(t, e)
	return opened(t, b, append(mem(pattern(int(h.Size)/2, 5)), make(mem, h.Size/4)...))
}

// passes: the file passes, and what is told of it is what it is by the plain
// audit, and by another look at its bytes.
func (w *world) passes(t *testing.T) audit.Info {
	t.Helper()
	b := w.f.Bytes()
	x, e := looked(t, b)
	ok(t, e)
	raw, fault := rawimage.Of(b)
	if fault != "" {
		t.Fatal(fault)
	}
	if x.Head != w.Header || int64(len(x.Role)) != w.Host || len(x.Refs) != len(raw.Refs) {
		t.Fatalf("%+v, of %+v", x, w.Header)
	}
	list, e := snapshot.List(w.Image)
	ok(t, e)
	if !slices.Equal(x.Snaps, list) {
		t.Fatalf("the snapshots %+v, not %+v", x.Snaps, list)
	}
	counts, e := w.Counts()
	ok(t, e)
	used := 0
	for n, count := range counts {
		places := x.Spots(int64(n))
		if count > 0 {
			used++
		}
		if int64(n) < w.First() {
			count--
		}
		if len(places) != count || len(raw.Spots(int64(n))) != count {
			t.Fatalf("cluster %d: %d places, and the count is %d", n, len(places), count)
		}
		if role := w.role(raw, int64(n), places); x.Role[n] != role {
			t.Fatalf("cluster %d: the role %d, not %d", n, x.Role[n], role)
		}
	}
	if x.Used() != used {
		t.Fatal("Used", x.Used(), "not", used)
	}
	return x
}

// role: what a cluster is for, by one place that refers to it.
func (w *world) role(raw *rawimage.Image, n int64, places []image.Spot) int {
	switch {
	case n < w.First():
		return 1
	case len(places) == 0:
		return 0
	case places[0].Table == 0:
		return 2
	case slices.Contains(raw.Tops(), places[0].Table):
		return 3
	}
	return 4
}

// snaps: the names of an image's snapshots.
func (w *world) snaps(t *testing.T) []string {
	t.Helper()
	list, e := snapshot.List(w.Image)
	ok(t, e)
	var names []string
	for _, s := range list {
		names = append(names, s.Name)
	}
	return names
}

// move: any cluster that is given out goes to another place, with all that refers to it.
func (w *world) move(t *testing.T, r *rand.Rand) api.Errno {
	t.Helper()
	x, e := audit.Check(w.f.Bytes())
	ok(t, e)
	if len(x.Refs) == 0 {
		return api.OK
	}
	from := x.Refs[r.Intn(len(x.Refs))].Cluster
	for to := w.First() + r.Int63n(w.Host-w.First()); to < w.Host; to++ {
		if x.Role[to] == 0 {
			e := w.Move(from, to, x.Spots(from)...)
			ok(t, e)
			return e
		}
	}
	return api.OK
}

// step: one call of layers 10 or 11 that changes something, or is refused.
func (w *world) step(t *testing.T, r *rand.Rand) {
	t.Helper()
	name, some := "s"+strconv.Itoa(r.Intn(12)), "s0"
	if names := w.snaps(t); len(names) > 0 {
		some = names[r.Intn(len(names))]
	}
	e := api.OK
	switch r.Intn(12) {
	case 0, 1:
		e = snapshot.Create(w.Image, name)
	case 2:
		e = snapshot.Delete(w.Image, some)
	case 3:
		e = snapshot.Back(w.Image, some)
	case 4, 5:
		e = w.Punch(r.Intn(2), r.Int63n(w.Guest()))
	case 6:
		_, e = w.Pull(r.Int63n(w.Guest()))
	case 7, 8:
		e = w.move(t, r)
	case 9:
		if e = snapshot.Alone(w.Image); e == api.OK {
			w.behind = nil
		}
	default:
		at := r.Int63n(w.Header.Size)
		n := min(w.Header.Size-at, 1+r.Int63n(3*w.Cluster()))
		e = w.Write(image.Edit{At: at, B: pattern(int(n), at)}, image.Edit{At: w.Header.Size - 1, B: []byte{1}})
	}
	switch e {
	case api.OK, api.ErrTwice, api.ErrNone, api.ErrFull, api.ErrState, api.ErrCross:
	default:
		t.Fatal("error", e)
	}
}

// Example 1: of an image that holds nothing.
func TestNothing(t *testing.T) {
	for _, backed := range []bool{false, true} {
		for _, h := range kinds(backed) {
			b, e := image.Make(h)
			ok(t, e)
			x, e := audit.Check(b)
			if e != api.OK || x.Head != h || len(x.Snaps) != 0 || len(x.Refs) != 0 || int64(x.Used()) != h.First() || int64(len(x.Role)) != h.Host {
				t.Errorf("%+v: %d, %+v", h, e, x)
			}
			for n, role := range x.Role {
				if want := map[bool]int{true: audit.Fixed}[int64(n) < h.First()]; role != want {
					t.Errorf("cluster %d: %d", n, role)
				}
				if len(x.Spots(int64(n))) != 0 {
					t.Errorf("cluster %d is referred to", n)
				}
			}
			empty(t, h).passes(t)
		}
	}
}

// Example 6 of the whole: behind a snapshot a write of one byte makes a table,
// and a cluster.
func TestOneByte(t *testing.T) {
	w := empty(t, fitted(9, 65536, 400, false))
	ok(t, w.Write(image.Edit{At: 700, B: []byte("a")}))
	x := w.passes(t)
	if x.Used() != 36 || !slices.Equal(x.Refs, []audit.Ref{{Cluster: 34, At: image.Spot{Table: 33}}, {Cluster: 35, At: image.Spot{Table: 34, Index: 1}}}) {
		t.Errorf("%+v", x.Refs)
	}
	ok(t, snapshot.Create(w.Image, "s"))
	x = w.passes(t)
	if x.Used() != 37 || !slices.Equal(x.Spots(34), []image.Spot{{Table: 33}, {Table: 36}}) || !slices.Equal(x.Spots(36), []image.Spot{{}}) {
		t.Errorf("%+v", x.Refs)
	}
	ok(t, w.Write(image.Edit{At: 701, B: []byte("b")}))
	x = w.passes(t)
	want := []int{audit.Inner, audit.Held, audit.Top, audit.Inner, audit.Held}
	if x.Used() != 39 || !slices.Equal(x.Role[34:39], want) {
		t.Errorf("%+v", x.Role[34:39])
	}
	if !slices.Equal(x.Snaps, []snapshot.Snap{{Name: "s", Cluster: 36, Id: 1}}) {
		t.Errorf("%+v", x.Snaps)
	}
}

// P12.2: whatever layers 10 and 11 have done, and wherever that was cut off.
func TestMadeAndChanged(t *testing.T) {
	for _, backed := range []bool{false, true} {
		for i, h := range kinds(backed) {
			w := empty(t, h)
			r := rand.New(rand.NewSource(int64(20 + i)))
			for n := range 150 {
				w.step(t, r)
				w.passes(t)
				if n%25 == 24 {
					w = opened(t, w.f.Crash(), w.behind)
				}
			}
		}
	}
}

// A disk that is held whole, by clusters that are no one else's; then by
// snapshots alone; then not at all.
func TestWholeDisk(t *testing.T) {
	for _, h := range kinds(true) {
		w := empty(t, h)
		all := make([]int64, h.Guest())
		for g := range h.Guest() {
			all[g] = g
			_, e := w.Pull(g)
			ok(t, e)
		}
		w.passes(t)
		ok(t, snapshot.Alone(w.Image))
		if w.passes(t).Head.Backed {
			t.Error("it is Backed")
		}
		ok(t, snapshot.Create(w.Image, "one"))
		ok(t, snapshot.Create(w.Image, "two"))
		w.passes(t)
		ok(t, snapshot.Delete(w.Image, "one"))
		ok(t, snapshot.Back(w.Image, "two"))
		ok(t, snapshot.Delete(w.Image, "two"))
		w.passes(t)
		for _, g := range all {
			if x, _, e := w.Active().Entry(g); e == api.OK && x.Kind == maps.Data {
				ok(t, w.Punch(maps.None, g))
			}
		}
		for _, role := range w.passes(t).Role {
			if role == audit.Held || role == audit.Top {
				t.Error("something is held")
			}
		}
	}
}

// P3: a call that is cut off, whatever is kept: what is left passes, or there are
// records that count; behind Open it passes, as ahead of the call or as behind it.
func TestCutOff(t *testing.T) {
	for _, h := range []header.Header{fitted(9, 70*512, 300, true), fitted(11, 9*2048, 90, true)} {
		w := empty(t, h)
		ok(t, w.Write(image.Edit{At: 100, B: pattern(3000, 1)}))
		ok(t, snapshot.Create(w.Image, "s"))
		ok(t, w.Write(image.Edit{At: 900, B: pattern(300, 2)}))
		for what, call := range map[string]func(w *world) api.Errno{
			"Write":  func(w *world) api.Errno { return w.Write(image.Edit{At: 1500, B: pattern(3000, 3)}) },
			"Punch":  func(w *world) api.Errno { return w.Punch(maps.Zero, 900/h.Cluster()) },
			"Create": func(w *world) api.Errno { return snapshot.Create(w.Image, "t") },
			"Delete": func(w *world) api.Errno { return snapshot.Delete(w.Image, "s") },
			"Back":   func(w *world) api.Errno { return snapshot.Back(w.Image, "s") },
		} {
			cutOff(t, what, w, call)
		}
	}
}

func cutOff(t *testing.T, what string, from *world, call func(w *world) api.Errno) {
	t.Helper()
	whole := opened(t, from.f.Bytes(), from.behind)
	before := whole.passes(t)
	ok(t, call(whole))
	after := whole.passes(t)
	told := map[api.Errno]int{}
	for n, e := 1, api.ErrIO; e != api.OK; n++ {
		w := opened(t, from.f.Bytes(), from.behind)
		w.f.Stop(n)
		e = call(w)
		for _, keep := range rawimage.Keeps(w.f.Waiting()) {
			left := w.f.Crash(keep...)
			x, e := looked(t, left)
			told[e]++
			then := opened(t, left, from.behind).passes(t)
			if !same(then, before) && !same(then, after) {
				t.Fatal(what, "is done in part")
			}
			if e == api.OK && !same(x, then) || e != api.OK && e != api.ErrState {
				t.Fatal(what, "is cut off, and what is left has the error", e)
			}
		}
	}
	if told[api.OK] == 0 || told[api.ErrState] == 0 {
		t.Error(what, told)
	}
}

// Spots and Used of any Info, also one that Check didn't answer.
func TestSpots(t *testing.T) {
	x := laidInfo()
	for n := int64(-3); n < 500; n++ {
		var want []image.Spot
		for _, r := range x.Refs {
			if r.Cluster == n {
				want = append(want, r.At)
			}
		}
		if got := x.Spots(n); !slices.Equal(got, want) {
			t.Errorf("Spots(%d) = %v, not %v", n, got, want)
		}
	}
	if got := x.Spots(37); !slices.Equal(got, []image.Spot{{Table: 34, Index: 1}, {Table: 40, Index: 1}}) {
		t.Error(got)
	}
	x.Spots(37)[0].Table = 9
	if !same(x, laidInfo()) {
		t.Error("what Spots answers isn't its own memory")
	}
	for _, n := range []int64{-1 << 63, 1<<63 - 1, -1, 0, 33, 44, 8192, 1 << 32, 1<<32 + 37} {
		if got := x.Spots(n); len(got) != 0 {
			t.Errorf("Spots(%d) = %v", n, got)
		}
	}
	if x.Used() != 44 {
		t.Error("Used", x.Used())
	}
	var zero audit.Info
	if zero.Used() != 0 || len(zero.Spots(0)) != 0 || len(zero.Spots(34)) != 0 {
		t.Error("of nothing")
	}
}

// What is handed in isn't changed, its spare room neither, and not kept; the
// same bytes have the same answer.
func TestMemory(t *testing.T) {
	room := bytes.Repeat([]byte{0xee}, 60*512)
	b := room[:44*512]
	copy(b, laid())
	x, e := audit.Check(b)
	ok(t, e)
	if !bytes.Equal(b, laid()) || !bytes.Equal(room[44*512:], bytes.Repeat([]byte{0xee}, 16*512)) {
		t.Error("what is handed in is changed")
	}
	clear(room)
	if !same(x, laidInfo()) {
		t.Error("what is handed in is kept")
	}
	y, e := audit.Check(laid())
	ok(t, e)
	clear(y.Role)
	clear(y.Refs)
	clear(y.Snaps)
	if !same(x, laidInfo()) {
		t.Error("two answers share memory")
	}
}
