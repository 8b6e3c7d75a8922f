package snapshot_test

import (
	"bytes"
	"maps"
	"math"
	"math/rand"
	"slices"
	"strconv"
	"testing"

	"fettle/api"
	"fettle/disk"
	"fettle/header"
	"fettle/image"
	"fettle/rawimage"
	"fettle/snapshot"
)

// mem is bytes, as a disk.
type mem []byte

func (m mem) Size() int64 { return int64(len(m)) }

func (m mem) Read(at, n int64) ([]byte, api.Errno) {
	if at < 0 || n < 0 || n > int64(len(m))-at {
		return nil, api.ErrRange
	}
	return slices.Clone(m[at : at+n]), api.OK
}

func ok(t *testing.T, e api.Errno) {
	t.Helper()
	if e != api.OK {
		t.Fatal("error", e)
	}
}

func pattern(n int, seed int64) []byte {
	b := make([]byte, n)
	rand.New(rand.NewSource(seed)).Read(b)
	return b
}

// fitted: a header with the least journal that it may have.
func fitted(bits int, size, host int64, backed bool) header.Header {
	h := header.Header{Bits: bits, Size: size, Host: host, Backed: backed}
	h.Journal = h.Least()
	return h
}

func kinds(backed bool) []header.Header {
	return []header.Header{
		fitted(9, 65536, 500, backed),
		fitted(10, 140*1024+512, 500, backed),
		fitted(12, 12*4096-512, 120, backed),
	}
}

// world is an image, and what it must show.
type world struct {
	*image.Image
	f      *disk.File
	behind mem
	active []byte
	list   []snapshot.Snap   // by slot; their clusters aren't held against anything
	disks  map[string][]byte // by name
}

// over: the image in a file, that must show what a world does.
func (w *world) over(t *testing.T, b []byte) *world {
	t.Helper()
	next := *w
	var e api.Errno
	next.f, e = disk.New(b)
	ok(t, e)
	next.Image, e = image.Open(next.f, w.behind)
	ok(t, e)
	next.active, next.list, next.disks = slices.Clone(w.active), slices.Clone(w.list), maps.Clone(w.disks)
	return &next
}

func empty(t *testing.T, h header.Header) *world {
	t.Helper()
	b, e := image.Make(h)
	ok(t, e)
	w := &world{active: make([]byte, h.Size), disks: map[string][]byte{}}
	if h.Backed {
		w.behind = pattern(int(h.Size)*2/3, 5)
		copy(w.active, w.behind)
	}
	return w.over(t, b)
}

// look holds all that is shown against what it must be.
func (w *world) look(t *testing.T) {
	t.Helper()
	x, fault := rawimage.Of(w.f.Bytes())
	if fault != "" {
		t.Fatal("the image isn't right:", fault)
	}
	list, e := snapshot.List(w.Image)
	ok(t, e)
	if len(list) != len(w.list) {
		t.Fatalf("there are %+v, not %+v", list, w.list)
	}
	if b, e := w.Active().Read(0, w.Header.Size); e != api.OK || !bytes.Equal(b, w.active) || !bytes.Equal(x.Disk(w.First()-1, w.behind), b) {
		t.Fatal("the active disk isn't what it must be; error", e)
	}
	for i, s := range list {
		want := w.list[i]
		want.Cluster = s.Cluster
		if s != want || x.Rows()[s.Slot] != s.Cluster {
			t.Fatalf("there is %+v, not %+v", s, want)
		}
		v, e := snapshot.View(w.Image, s.Name)
		ok(t, e)
		b, e := v.Read(0, v.Size())
		if e != api.OK || !bytes.Equal(b, w.disks[s.Name]) || !bytes.Equal(x.Disk(s.Cluster, w.behind), b) {
			t.Fatalf("the snapshot %s reads as another one; error %d", s.Name, e)
		}
	}
}

func (w *world) write(t *testing.T, at int64, b []byte) {
	t.Helper()
	ok(t, w.Write(image.Edit{At: at, B: b}))
	copy(w.active[at:], b)
}

// created: what must be behind a Create.
func (w *world) created(name string) {
	s := snapshot.Snap{Name: name, Id: 1}
	for _, x := range w.list {
		s.Id = max(s.Id, x.Id+1)
	}
	taken := func(slot int) bool {
		return slices.ContainsFunc(w.list, func(x snapshot.Snap) bool { return x.Slot == slot })
	}
	for taken(s.Slot) {
		s.Slot++
	}
	w.list = append(w.list, s)
	slices.SortFunc(w.list, func(a, b snapshot.Snap) int { return a.Slot - b.Slot })
	w.disks[name] = slices.Clone(w.active)
}

// deleted: what must be behind a Delete.
func (w *world) deleted(name string) {
	w.list = slices.DeleteFunc(w.list, func(s snapshot.Snap) bool { return s.Name == name })
	delete(w.disks, name)
}

func (w *world) create(t *testing.T, name string) {
	t.Helper()
	ok(t, snapshot.Create(w.Image, name))
	w.created(name)
	w.look(t)
}

func (w *world) delete(t *testing.T, name string) {
	t.Helper()
	ok(t, snapshot.Delete(w.Image, name))
	w.deleted(name)
	w.look(t)
}

func (w *world) back(t *testing.T, name string) {
	t.Helper()
	ok(t, snapshot.Back(w.Image, name))
	w.active = slices.Clone(w.disks[name])
	w.look(t)
}

// same: a call that is refused has changed nothing.
func (w *world) same(t *testing.T, what string, want api.Errno, call func() api.Errno) {
	t.Helper()
	ahead := w.f.Bytes()
	if e := call(); e != want {
		t.Errorf("%s: error %d, not %d", what, e, want)
	}
	if !bytes.Equal(w.f.Bytes(), ahead) {
		t.Errorf("%s: something has changed", what)
	}
}

// Example 1: Create, Write, Back: the disk is as it was.
func TestBack(t *testing.T) {
	for _, backed := range []bool{false, true} {
		for _, h := range kinds(backed) {
			w := empty(t, h)
			w.create(t, "nothing")
			w.write(t, 700, pattern(3000, 1))
			w.create(t, "a")
			w.write(t, 800, pattern(9000, 2))
			w.write(t, h.Size-600, pattern(600, 3))
			w.look(t)
			w.create(t, "b")
			w.back(t, "a")
			w.back(t, "b")
			w.back(t, "nothing")
			w.write(t, 0, pattern(2000, 4))
			w.look(t)
			w.back(t, "nothing")
			w.delete(t, "a")
			w.back(t, "b")
			w.delete(t, "b")
			w.delete(t, "nothing")
			w.write(t, 5, pattern(100, 5))
			w.look(t)
		}
	}
}

// Slots and numbers: the lowest that is free, one more than the greatest.
func TestSlots(t *testing.T) {
	w := empty(t, fitted(9, 65536, 400, false))
	for i := range api.MaxSnaps {
		w.write(t, int64(i)*600, []byte{byte(i + 1)})
		w.create(t, "s"+strconv.Itoa(i))
	}
	w.same(t, "all rows are taken", api.ErrFull, func() api.Errno { return snapshot.Create(w.Image, "more") })
	w.same(t, "all rows are taken, and the name is", api.ErrTwice, func() api.Errno { return snapshot.Create(w.Image, "s3") })
	w.same(t, "all rows are taken, and it is no name", api.ErrName, func() api.Errno { return snapshot.Create(w.Image, "S3") })
	for _, name := range []string{"s5", "s2", "s7"} {
		w.delete(t, name)
	}
	w.create(t, "again")   // in the third row, with the number 8: the greatest is 7
	w.create(t, "further") // in the sixth
	if s := w.list[2]; s.Name != "again" || s.Slot != 2 || s.Id != 8 {
		t.Errorf("%+v", s)
	}
	w.create(t, "s7")
	w.same(t, "taken again", api.ErrFull, func() api.Errno { return snapshot.Create(w.Image, "more") })
	for len(w.list) > 0 {
		w.delete(t, w.list[len(w.list)/2].Name)
	}
	w.create(t, "first")
	if s := w.list[0]; s.Slot != 0 || s.Id != 1 {
		t.Errorf("%+v", s)
	}
}

func TestNames(t *testing.T) {
	w := empty(t, fitted(9, 65536, 400, false))
	w.create(t, "a")
	w.create(t, "0123456789_-abcd")
	for _, name := range []string{"", "A", "a b", "0123456789_-abcde", "a\x00", "é", "a/b"} {
		w.same(t, "no name", api.ErrName, func() api.Errno { return snapshot.Create(w.Image, name) })
	}
	w.same(t, "twice", api.ErrTwice, func() api.Errno { return snapshot.Create(w.Image, "a") })
	for _, name := range []string{"", "b", "A", "aa", "a\x00", "0123456789_-abcde", "0123456789_-abc"} {
		w.same(t, "Delete of none", api.ErrNone, func() api.Errno { return snapshot.Delete(w.Image, name) })
		w.same(t, "Back to none", api.ErrNone, func() api.Errno { return snapshot.Back(w.Image, name) })
		if v, e := snapshot.View(w.Image, name); v != nil || e != api.ErrNone {
			t.Error("View of none:", name, v, e)
		}
	}
	w.look(t)
	w.delete(t, "a")
	w.same(t, "deleted", api.ErrNone, func() api.Errno { return snapshot.Delete(w.Image, "a") })
}

func TestNil(t *testing.T) {
	for name, im := range map[string]*image.Image{"nil": nil, "neither": {}} {
		if l, e := snapshot.List(im); len(l) != 0 || e != api.ErrNil {
			t.Error(name, "List", l, e)
		}
		if v, e := snapshot.View(im, "a"); v != nil || e != api.ErrNil {
			t.Error(name, "View", v, e)
		}
		for what, e := range map[string]api.Errno{
			"Create": snapshot.Create(im, "a"), "Delete": snapshot.Delete(im, "a"), "Back": snapshot.Back(im, "a"), "Alone": snapshot.Alone(im),
		} {
			if e != api.ErrNil {
				t.Error(name, what, e)
			}
		}
	}
	for what, e := range map[string]api.Errno{"Create": snapshot.Create(nil, "A"), "Delete": snapshot.Delete(nil, ""), "Back": snapshot.Back(nil, "")} {
		if e != api.ErrNil {
			t.Error("no name:", what, e)
		}
	}
}

// Rows that may not be: nothing is done.
func TestWrongRows(t *testing.T) {
	for _, c := range []struct {
		what string
		lay  func(b []byte)
		want api.Errno
	}{
		{"a name", func(b []byte) { b[0] = 'A' }, api.ErrName},
		{"a cluster", func(b []byte) { b[23] = 1 }, api.ErrForm},
		{"twice", func(b []byte) { copy(b[32:64], b[:32]) }, api.ErrTwice},
		{"a byte behind", func(b []byte) { b[300] = 1 }, api.ErrForm},
	} {
		w := empty(t, fitted(9, 65536, 400, true))
		w.create(t, "a")
		b := w.f.Bytes()
		c.lay(b[w.SnapsAt().From:w.SnapsAt().To])
		w = w.over(t, b)
		if l, e := snapshot.List(w.Image); len(l) != 0 || e != c.want {
			t.Error(c.what, l, e)
		}
		if v, e := snapshot.View(w.Image, "a"); v != nil || e != c.want {
			t.Error(c.what, "View", e)
		}
		w.same(t, c.what, c.want, func() api.Errno { return snapshot.Create(w.Image, "b") })
		w.same(t, c.what, c.want, func() api.Errno { return snapshot.Delete(w.Image, "a") })
		w.same(t, c.what, c.want, func() api.Errno { return snapshot.Back(w.Image, "a") })
		w.same(t, c.what, c.want, func() api.Errno { return snapshot.Alone(w.Image) })
		w.same(t, "no name comes first", api.ErrName, func() api.Errno { return snapshot.Create(w.Image, "") })
	}
}

// A row that leads outside of what is given out: the image's error.
func TestRowOutside(t *testing.T) {
	for _, cluster := range []uint64{1, 33, 400, 8191} {
		w := empty(t, fitted(9, 65536, 400, true))
		b := w.f.Bytes()
		copy(b[w.SnapsAt().From+32*5:], laid("out", cluster, 3))
		w = w.over(t, b)
		w.same(t, "Delete", api.ErrRange, func() api.Errno { return snapshot.Delete(w.Image, "out") })
		w.same(t, "Back", api.ErrRange, func() api.Errno { return snapshot.Back(w.Image, "out") })
	}
}

// There is no number more: none is given twice.
func TestNoNumber(t *testing.T) {
	w := empty(t, fitted(9, 65536, 400, false))
	w.create(t, "a")
	b := w.f.Bytes()
	copy(b[w.SnapsAt().From+24:], bytes.Repeat([]byte{0xff}, 8))
	w.list[0].Id = math.MaxUint64
	w = w.over(t, b)
	w.look(t)
	w.same(t, "the greatest number is taken", api.ErrLimit, func() api.Errno { return snapshot.Create(w.Image, "b") })
	w.delete(t, "a")
	w.create(t, "b")
}

// There is no cluster for a top table's copy.
func TestNoCluster(t *testing.T) {
	h := fitted(9, 65536, 60, false)
	w := empty(t, h)
	w.create(t, "a")
	w.write(t, 0, pattern(int(h.Host-h.First()-2)*512, 6))
	w.look(t)
	w.same(t, "no cluster", api.ErrFull, func() api.Errno { return snapshot.Create(w.Image, "b") })
	w.same(t, "no cluster, and twice", api.ErrTwice, func() api.Errno { return snapshot.Create(w.Image, "a") })
	w.delete(t, "a")
	w.create(t, "b")
}

func TestAlone(t *testing.T) {
	w := empty(t, fitted(9, 65536, 400, false))
	w.create(t, "a")
	w.same(t, "nothing is behind", api.ErrState, func() api.Errno { return snapshot.Alone(w.Image) })
	for _, h := range kinds(true) {
		w := empty(t, h)
		w.create(t, "behind")
		w.same(t, "the active disk reads from there", api.ErrCross, func() api.Errno { return snapshot.Alone(w.Image) })
		for g := range h.Guest() {
			_, e := w.Pull(g)
			ok(t, e)
		}
		w.look(t)
		w.create(t, "held")
		w.same(t, "a snapshot reads from there", api.ErrCross, func() api.Errno { return snapshot.Alone(w.Image) })
		w.delete(t, "behind")
		ok(t, snapshot.Alone(w.Image))
		w.behind = nil
		w.look(t)
		w = w.over(t, w.f.Crash())
		w.look(t)
		w.write(t, 900, []byte("alone"))
		w.look(t)
		w.back(t, "held")
	}
}

// P11.2, P11.3: whatever is done, each snapshot reads as the active disk did.
func TestAnySteps(t *testing.T) {
	for _, backed := range []bool{false, true} {
		for i, h := range kinds(backed) {
			r := rand.New(rand.NewSource(int64(10 + i)))
			w := empty(t, h)
			for n := range 250 {
				w.step(t, r)
				w.look(t)
				if n%20 == 19 {
					w = w.over(t, w.f.Crash())
				}
			}
		}
	}
}

// step: something is done, that may be refused by its name or for want of room alone.
func (w *world) step(t *testing.T, r *rand.Rand) {
	t.Helper()
	name := letters[r.Intn(11):][:1]
	_, there := w.disks[name]
	expect := func(e, refused api.Errno, done func()) {
		t.Helper()
		switch {
		case e == api.OK && refused == api.OK:
			done()
		case e == refused || e == api.ErrFull:
		default:
			t.Fatal("error", e, "not", refused)
		}
	}
	none := api.OK
	if !there {
		none = api.ErrNone
	}
	switch r.Intn(6) {
	case 0:
		twice := api.OK
		if there {
			twice = api.ErrTwice
		}
		expect(snapshot.Create(w.Image, name), twice, func() { w.created(name) })
	case 1:
		expect(snapshot.Delete(w.Image, name), none, func() { w.deleted(name) })
	case 2:
		expect(snapshot.Back(w.Image, name), none, func() { w.active = slices.Clone(w.disks[name]) })
	default:
		at := r.Int63n(w.Header.Size)
		b := pattern(r.Intn(int(min(w.Header.Size-at, 5000)))+1, r.Int63())
		expect(w.Write(image.Edit{At: at, B: b}), api.OK, func() { copy(w.active[at:], b) })
	}
}
