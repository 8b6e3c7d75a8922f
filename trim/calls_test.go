package trim_test

import (
	"bytes"
	"math"
	"math/rand"
	"reflect"
	"slices"
	"testing"

	"fettle/api"
	"fettle/audit"
	"fettle/disk"
	"fettle/gpt"
	"fettle/image"
	"fettle/plan"
	"fettle/resize"
	"fettle/snapshot"
	"fettle/trim"
)

// call is a call of the tool, and the same by the layers that the chapter names, step by
// step: behind each step the count of what was done is told.
type call struct {
	name  string
	tool  func(u *trim.Tool) (int, api.Errno)
	layer func(x *twin, done func(n int)) api.Errno
}

// twin is an image on a file of its own, to which is done what a tool does, by the
// chapter's words.
type twin struct {
	*image.Image
	f      *disk.File
	back   api.Disk
	broken bool
}

func newTwin(t *testing.T, b []byte, behind [][]byte) *twin {
	t.Helper()
	f, e := disk.New(b)
	ok(t, e)
	back, e := image.Stack(behind...)
	ok(t, e)
	im, e := image.Open(f, back)
	ok(t, e)
	return &twin{Image: im, f: f, back: back}
}

// recover: the image is opened anew, and checked.
func (x *twin) recover() api.Errno {
	im, e := image.Open(x.f, x.back)
	if e == api.OK {
		_, e = audit.Check(x.f.Bytes())
	}
	x.broken = e != api.OK
	if e == api.OK {
		x.Image = im
	}
	return e
}

// do: what a call must answer.
func (x *twin) do(c call) (int, api.Errno) {
	if x.broken {
		return 0, api.ErrState
	}
	count := 0
	e := c.layer(x, func(n int) { count = n })
	x.broken = e == api.ErrIO
	return count, e
}

// plain: a call that is done at once.
func plain(name string, tool func(u *trim.Tool) api.Errno, layer func(x *twin) api.Errno) call {
	return call{
		name: name,
		tool: func(u *trim.Tool) (int, api.Errno) {
			e := tool(u)
			if e != api.OK {
				return 0, e
			}
			return 1, api.OK
		},
		layer: func(x *twin, done func(n int)) api.Errno {
			e := layer(x)
			if e == api.OK {
				done(1)
			}
			return e
		},
	}
}

func write(edits ...image.Edit) call {
	return plain("Write", func(u *trim.Tool) api.Errno { return u.Write(edits...) }, func(x *twin) api.Errno { return x.Write(edits...) })
}

func snap(name string) call {
	return plain("Snap", func(u *trim.Tool) api.Errno { return u.Snap(name) }, func(x *twin) api.Errno { return snapshot.Create(x.Image, name) })
}

func drop(name string) call {
	return plain("Drop", func(u *trim.Tool) api.Errno { return u.Drop(name) }, func(x *twin) api.Errno { return snapshot.Delete(x.Image, name) })
}

func back(name string) call {
	return plain("Back", func(u *trim.Tool) api.Errno { return u.Back(name) }, func(x *twin) api.Errno { return snapshot.Back(x.Image, name) })
}

func alone() call {
	return plain("Alone", (*trim.Tool).Alone, func(x *twin) api.Errno { return snapshot.Alone(x.Image) })
}

func resizeTo(sectors int64) call {
	return plain("Resize", func(u *trim.Tool) api.Errno { return u.Resize(sectors) }, func(x *twin) api.Errno {
		l, e := resize.Last(x.Active(), sectors)
		if e != api.OK {
			return e
		}
		var edits []image.Edit
		for _, p := range l {
			edits = append(edits, image.Edit{At: p.At, B: p.B})
		}
		return x.Write(edits...)
	})
}

func mend() call {
	return call{"Mend", (*trim.Tool).Mend, func(x *twin, done func(int)) api.Errno {
		l, e := gpt.Mend(x.Active())
		if e != api.OK {
			return e
		}
		var edits []image.Edit
		for _, p := range l {
			edits = append(edits, image.Edit{At: p.At, B: p.B})
		}
		e = x.Write(edits...)
		if e == api.OK {
			done(len(l))
		}
		return e
	}}
}

func dry() call {
	return plain("Dry", func(u *trim.Tool) api.Errno { _, e := u.Dry(); return e }, func(x *twin) api.Errno { _, e := plan.Make(x.Image); return e })
}

func sparsify() call {
	return call{"Sparsify", func(u *trim.Tool) (int, api.Errno) { _, n, e := u.Sparsify(); return n, e }, func(x *twin, done func(int)) api.Errno {
		r, e := plan.Make(x.Image)
		for i, step := range r.Steps {
			if e = x.Punch(r.Kind, step...); e != api.OK {
				return e
			}
			done(i + 1)
		}
		return e
	}}
}

func squeeze() call {
	return call{"Squeeze", (*trim.Tool).Squeeze, func(x *twin, done func(int)) api.Errno {
		l, kind, e := plan.Blanks(x.Image)
		n := 0
		for _, step := range l {
			if e = x.Punch(kind, step...); e != api.OK {
				return e
			}
			n += len(step)
			done(n)
		}
		return e
	}}
}

func compact() call {
	return call{"Compact", (*trim.Tool).Compact, func(x *twin, done func(int)) api.Errno {
		for n := 1; ; n++ {
			high, low, e := x.Ends()
			if e != api.OK {
				return e
			}
			if low == -1 || low > high {
				if end := (high + 1) * x.Cluster(); x.f.Len() > end {
					if e := x.f.Truncate(end); e != api.OK {
						return e
					}
					return x.f.Flush()
				}
				return api.OK
			}
			info, e := audit.Check(x.f.Bytes())
			if e != api.OK {
				return e
			}
			if e := x.Move(high, low, info.Spots(high)...); e != api.OK {
				return e
			}
			done(n)
		}
	}}
}

func pull() call {
	return call{"Pull", (*trim.Tool).Pull, func(x *twin, done func(int)) api.Errno {
		n := 0
		for g := range x.Guest() {
			was, e := x.Pull(g)
			if e != api.OK {
				return e
			}
			if was {
				n++
				done(n)
			}
		}
		return api.OK
	}}
}

// all: each call once.
func all() []call {
	return []call{write(image.Edit{At: 700, B: []byte("x")}), snap("new"), drop("a"), back("a"), alone(), dry(), sparsify(), squeeze(), compact(), resizeTo(100), pull(), mend()}
}

// anyCall: one with any arguments, wrong ones among them.
func anyCall(r *rand.Rand, w *world) call {
	name := []string{"a", "b-2", "c", "d", "e_9", "", "A", "much-too-long-for-it"}[r.Intn(8)]
	switch r.Intn(14) {
	case 0, 1, 2:
		unit := int64(512 << r.Intn(4))
		at := r.Int63n(int64(len(w.d))/unit) * unit
		b := slices.Clone(w.d[at:min(at+2*unit, int64(len(w.d)))])
		if r.Intn(20) == 0 {
			at = int64(len(w.d)) - 3
		}
		return write(image.Edit{At: at, B: b})
	case 3:
		return write(image.Edit{At: -1}, image.Edit{At: 5})
	case 4:
		return snap(name)
	case 5:
		return drop(name)
	case 6:
		return back(name)
	case 7:
		return resizeTo([]int64{40, 60, 100, 101, 0, -1, math.MaxInt64, r.Int63n(200)}[r.Intn(8)])
	}
	return []call{alone(), dry(), sparsify(), squeeze(), compact(), mend(), pull()}[r.Intn(7)]
}

// sameAs: a tool answers as its twin, and its file is the same.
func sameAs(t *testing.T, u *trim.Tool, x *twin, c call) api.Errno {
	t.Helper()
	n, e := c.tool(u)
	wantN, want := x.do(c)
	if n != wantN || e != want {
		t.Fatalf("%s: %d, error %d, not %d, %d", c.name, n, e, wantN, want)
	}
	if !bytes.Equal(u.Bytes(), x.f.Bytes()) || !bytes.Equal(u.Crash(), x.f.Crash()) || u.Waiting() != x.f.Waiting() {
		t.Fatal(c.name, "makes another file")
	}
	if u.Broken() != x.broken {
		t.Fatal(c.name, "Broken:", u.Broken())
	}
	return e
}

// TestAnyCalls: each call against what the layers answer, with any behind it, with
// refusals and without, and Recover behind them.
func TestAnyCalls(t *testing.T) {
	t.Parallel()
	done, errors := map[string]int{}, map[string]map[api.Errno]int{}
	for _, g := range guests() {
		for _, s := range shapes() {
			w := laid(t, g(), s)
			r := rand.New(rand.NewSource(s.seed))
			u, x := w.open(t), newTwin(t, w.b, w.behind)
			for range 70 {
				if r.Intn(6) == 0 {
					n := 1 + r.Intn(1<<(1+r.Intn(10)))
					u.Refuse(n)
					x.f.Refuse(n)
				}
				c := anyCall(r, w)
				e := sameAs(t, u, x, c)
				if e == api.OK {
					done[c.name]++
				}
				if errors[c.name] == nil {
					errors[c.name] = map[api.Errno]int{}
				}
				errors[c.name][e]++
				if e == api.OK && r.Intn(3) > 0 {
					continue
				}
				u.Refuse(0)
				x.f.Refuse(0)
				if a, b := u.Recover(), x.recover(); a != b || u.Broken() != x.broken || !bytes.Equal(u.Bytes(), x.f.Bytes()) {
					t.Fatal("Recover:", a, b)
				}
			}
			right(t, u.Bytes())
		}
	}
	for _, c := range all() {
		if done[c.name] < 6 || errors[c.name][api.ErrIO] == 0 {
			t.Error("too few:", c.name, done[c.name], errors[c.name])
		}
	}
	for name, want := range map[string][]api.Errno{
		"Write": {api.ErrRange}, "Snap": {api.ErrName, api.ErrTwice}, "Drop": {api.ErrNone}, "Back": {api.ErrNone}, "Alone": {api.ErrState, api.ErrCross},
		"Resize": {api.ErrSmall, api.ErrRange, api.ErrNone}, "Mend": {api.ErrMagic},
	} {
		for _, e := range want {
			if errors[name][e] == 0 {
				t.Error(name, "never answers", e, errors[name])
			}
		}
	}
}

// empty: a report that tells nothing.
func empty(r plan.Report) bool {
	return len(r.Volumes)+len(r.Free)+len(r.Whole)+len(r.Steps) == 0 && r.Bytes == 0 && r.Kind == 0
}

// answers: what a broken tool answers: ErrState, nothing done, and no operation.
func answersState(t *testing.T, u *trim.Tool) {
	t.Helper()
	if !u.Broken() || u.Image() == nil {
		t.Fatal("it isn't broken")
	}
	ops := u.Ops()
	for _, c := range all() {
		if n, e := c.tool(u); n != 0 || e != api.ErrState {
			t.Fatal(c.name, n, e)
		}
	}
	for _, c := range []call{write(), write(image.Edit{At: -1}), snap(""), drop(""), back(""), resizeTo(-1)} {
		if n, e := c.tool(u); n != 0 || e != api.ErrState {
			t.Fatal("with a wrong argument:", c.name, n, e)
		}
	}
	if r, e := u.Dry(); !empty(r) || e != api.ErrState {
		t.Fatal("Dry", e)
	}
	if r, n, e := u.Sparsify(); !empty(r) || n != 0 || e != api.ErrState {
		t.Fatal("Sparsify", e)
	}
	if u.Ops() != ops || !u.Broken() {
		t.Fatal("something was asked for")
	}
}

// TestBroken: a call that ends with ErrIO, at its first operation, makes the tool broken,
// till Recover is done.
func TestBroken(t *testing.T) {
	w := laid(t, twoVolumes().gpt(), shape{bits: 10, behind: 1, snap: true, seed: 3})
	for _, c := range all() {
		u := w.open(t)
		u.Refuse(1)
		if n, e := c.tool(u); n != 0 || e != api.ErrIO {
			t.Error(c.name, n, e)
		}
		answersState(t, u)
		u.Stop(1)
		if e := u.Recover(); e != api.ErrIO {
			t.Error("Recover, refused:", e)
		}
		answersState(t, u)
		u.Stop(0)
		ok(t, u.Recover())
		if u.Broken() {
			t.Error("it is still broken")
		}
		w.shows(t, u.Bytes(), false)
		if n, e := c.tool(u); e == api.ErrIO || e == api.ErrState {
			t.Error("again:", c.name, n, e)
		}
	}
}

// TestOtherErrors: calls that end with another error leave the tool, and the file, as they
// are.
func TestOtherErrors(t *testing.T) {
	w := laid(t, newGuest(50).mbr(), shape{bits: 9, snap: true, seed: 3})
	u := w.open(t)
	for _, c := range []struct {
		call
		want api.Errno
	}{
		{write(image.Edit{At: 5, B: []byte("not written")}, image.Edit{At: 50 * 512, B: []byte("x")}), api.ErrRange},
		{snap("A"), api.ErrName}, {snap(""), api.ErrName}, {snap("a"), api.ErrTwice},
		{drop("c"), api.ErrNone}, {back("c"), api.ErrNone}, {drop(""), api.ErrNone}, {alone(), api.ErrState},
		{resizeTo(10), api.ErrNone}, {mend(), api.ErrMagic},
	} {
		if n, e := c.tool(u); n != 0 || e != c.want || u.Broken() {
			t.Error(c.name, n, e, "not", c.want)
		}
	}
	if u.Wrote() != 0 || !bytes.Equal(u.Bytes(), w.b) {
		t.Error("something was written")
	}
}

// TestSparsifyTells: the report is Dry's, and with an error empty.
func TestSparsifyTells(t *testing.T) {
	w := laid(t, twoVolumes().mbr(), shape{bits: 9, seed: 3})
	u := w.open(t)
	dry, e := u.Dry()
	ok(t, e)
	r, n, e := u.Sparsify()
	if e != api.OK || n != len(dry.Steps) || n < 3 || !reflect.DeepEqual(r, dry) {
		t.Error("another report:", r, n, e)
	}
	u = w.open(t)
	ops := u.Ops()
	_, _ = u.Dry()
	read := u.Ops() - ops
	u.Refuse(read + 1) // the first operation of the first step
	if r, n, e := u.Sparsify(); !empty(r) || n != 0 || e != api.ErrIO {
		t.Error("refused:", r, n, e)
	}
}
