package image_test

import (
	"bytes"
	"testing"

	"fettle/api"
	"fettle/header"
	"fettle/image"
	"fettle/maps"
	"fettle/rawimage"
)

// scene: a world, and a call that changes it.
type scene struct {
	name string
	w    *world
	call func(w *world) api.Errno
}

// pulledAll: a world whose active disk reads nothing from behind.
func pulledAll(t *testing.T, h header.Header) *world {
	w := filled(t, h, 9000)
	ok(t, w.release(0))
	ok(t, w.release(1))
	for g := range w.Guest() {
		_, e := w.Pull(g)
		ok(t, e)
	}
	return w
}

func scenes(t *testing.T, h header.Header) []scene {
	w := filled(t, h, 9000)
	x := w.raw(t)
	table := x.Refs[len(x.Refs)-1].Table
	list := []scene{
		{"the first byte", empty(t, h, 9000), func(w *world) api.Errno { return w.Write(edit(h.Size-1, "a")) }},
		{"where it stands", w, func(w *world) api.Errno { return w.Write(edit(705, "over")) }},
		{"a new cluster", w, func(w *world) api.Errno { return w.Write(edit(3*h.Cluster()-2, "over")) }},
		{"several edits", w, func(w *world) api.Errno {
			return w.Write(edit(700, "over"), image.Edit{At: 900, B: pattern(3000, 3)}, edit(h.Size-3, "end"), edit(701, "w"))
		}},
		{"Punch", w, func(w *world) api.Errno { return w.Punch(maps.Zero, 700/h.Cluster()) }},
		{"Share", w, func(w *world) api.Errno { return w.share(3) }},
		{"Release", w, func(w *world) api.Errno { return w.release(0) }},
		{"Release of the other", w, func(w *world) api.Errno { return w.release(1) }},
		{"Adopt", w, func(w *world) api.Errno { return w.adopt(1) }},
		{"Move of a snapshot's table", w, func(w *world) api.Errno { return w.Move(w.at[0], h.Host-1, spots(x, w.at[0])...) }},
		{"Move of a table", w, func(w *world) api.Errno { return w.Move(table, h.Host-1, spots(x, table)...) }},
		{"Move of a cluster", w, func(w *world) api.Errno { return w.Move(h.First()+1, h.Host-1, spots(x, h.First()+1)...) }},
	}
	if h.Backed {
		list = append(list,
			scene{"Pull", w, func(w *world) api.Errno { _, e := w.Pull(4); return e }},
			scene{"Pull of noughts", w, func(w *world) api.Errno { _, e := w.Pull(9000/h.Cluster() + 1); return e }},
			scene{"Alone", pulledAll(t, h), func(w *world) api.Errno { return w.Alone() }},
		)
	}
	return list
}

// twoKinds: with a disk behind, and with clusters of several sectors.
func twoKinds() []header.Header {
	return []header.Header{fitted(9, 70*512, 150, true), fitted(10, 12*1024+512, 70, true), fitted(12, 7*4096, 60, false)}
}

// P10.3: a call that is cut off at any operation, whatever is kept, is done, or
// not begun, when the image is opened again; and opened twice is as once.
func TestAllOrNone(t *testing.T) {
	for _, h := range twoKinds() {
		for _, s := range scenes(t, h) {
			b := s.w.f.Bytes()
			whole := s.w.over(t, b)
			ok(t, s.call(whole))
			before, after := essence(t, b), essence(t, whole.f.Bytes())
			if before == after {
				t.Fatal(s.name, "changes nothing")
			}
			dones, nones := 0, 0
			for n := 1; ; n++ {
				w := s.w.over(t, b)
				w.f.Stop(n)
				e := s.call(w)
				if e != api.OK && e != api.ErrIO {
					t.Fatal(s.name, n, "error", e)
				}
				for _, keep := range rawimage.Keeps(w.f.Waiting()) {
					again := s.w.over(t, w.f.Crash(keep...))
					switch essence(t, again.f.Bytes()) {
					case after:
						dones++
					case before:
						nones++
						if e == api.OK {
							t.Fatalf("%s: it was done, and is lost", s.name)
						}
					default:
						t.Fatalf("%s: cut off at %d, kept %v: neither done nor not begun", s.name, n, keep)
					}
					once := again.f.Crash()
					twice := s.w.over(t, once)
					if twice.Replayed() != 0 || !bytes.Equal(twice.f.Bytes(), once) {
						t.Fatalf("%s: cut off at %d: opened twice isn't as once", s.name, n)
					}
				}
				if e == api.OK {
					break
				}
			}
			if dones == 0 || nones == 0 {
				t.Errorf("%s: %d times done, %d times not", s.name, dones, nones)
			}
		}
	}
}

// A Replay that is cut off at any operation, and done again, is as one that wasn't.
func TestOpenCutOff(t *testing.T) {
	h := twoKinds()[0]
	for _, s := range scenes(t, h) {
		b := s.w.f.Bytes()
		whole := s.w.over(t, b)
		ops := whole.f.Ops()
		ok(t, s.call(whole))
		after := essence(t, whole.f.Bytes())
		// Cut off ahead of the last two operations, the sign stands still.
		w := s.w.over(t, b)
		w.f.Stop(whole.f.Ops() - ops - 1)
		if e := s.call(w); e != api.ErrIO {
			t.Fatal(s.name, e)
		}
		cut := w.f.Crash()
		for n := 1; ; n++ {
			f := file(t, cut)
			f.Stop(n)
			_, e := image.Open(f, s.w.behind)
			for _, keep := range rawimage.Keeps(f.Waiting()) {
				if again := s.w.over(t, f.Crash(keep...)); essence(t, again.f.Bytes()) != after {
					t.Fatalf("%s: the Replay, cut off at %d, kept %v", s.name, n, keep)
				}
			}
			if e == api.OK {
				break
			}
			if e != api.ErrIO {
				t.Fatal(s.name, n, e)
			}
		}
	}
}

// One operation is refused, and the power stays: the image goes on, its change
// done, or not begun.
func TestGoesOnBehindRefusal(t *testing.T) {
	for _, h := range twoKinds() {
		for _, s := range scenes(t, h) {
			b := s.w.f.Bytes()
			whole := s.w.over(t, b)
			ok(t, s.call(whole))
			before, after := essence(t, b), essence(t, whole.f.Bytes())
			for n := 1; ; n++ {
				w := s.w.over(t, b)
				w.f.Refuse(n)
				e := s.call(w)
				if e == api.OK {
					break
				}
				if e != api.ErrIO {
					t.Fatal(s.name, n, "error", e)
				}
				shown, e := w.Active().Read(0, h.Size)
				ok(t, e)
				now := essence(t, w.f.Bytes())
				if now != before && now != after {
					t.Fatalf("%s: operation %d refused: neither done nor not begun", s.name, n)
				}
				w.goesOn(t, s, n, shown, now == after)
			}
		}
	}
}

// goesOn: the image is used on, as it was opened, and is right.
func (w *world) goesOn(t *testing.T, s scene, n int, shown []byte, done bool) {
	t.Helper()
	if (w.Behind() != nil) != w.Backed || done && s.name == "Alone" && w.Backed {
		t.Fatalf("%s: operation %d refused: behind it is %v", s.name, n, w.Behind())
	}
	ok(t, w.Write(edit(1, "going on"), edit(w.Header.Size-1, "!")))
	copy(shown[1:], "going on")
	shown[w.Header.Size-1] = '!'
	x := w.raw(t)
	if !bytes.Equal(x.Disk(w.First()-1, w.behind), shown) {
		t.Fatalf("%s: operation %d refused: the disk isn't what was written", s.name, n)
	}
	for i, top := range x.Rows() {
		if want := w.snaps[i]; top != 0 && want != nil && !bytes.Equal(x.Disk(top, w.behind), want) {
			t.Fatalf("%s: operation %d refused: a snapshot is another one", s.name, n)
		}
	}
	again := w.over(t, w.f.Crash())
	if b, e := again.Active().Read(0, w.Header.Size); e != api.OK || !bytes.Equal(b, shown) || again.Header != w.Header {
		t.Fatalf("%s: operation %d refused: opened again it is another one", s.name, n)
	}
}

// What is only read is refused at any operation: nothing is told, nothing changes.
func TestReadsRefused(t *testing.T) {
	h := fitted(9, 70*512, 150, true)
	w := filled(t, h, 9000)
	ahead := w.f.Bytes()
	for name, call := range map[string]func() (int, api.Errno){
		"Read": func() (int, api.Errno) { b, e := w.Active().Read(100, 3000); return len(b), e },
		"Entry": func() (int, api.Errno) {
			x, own, e := w.View(w.at[0]).Entry(1)
			return number(x != maps.Entry{} || own), e
		},
		"Counts": func() (int, api.Errno) { l, e := w.Counts(); return len(l), e },
		"Ends":   func() (int, api.Errno) { high, low, e := w.Ends(); return int(high + low), e },
		"Blank":  func() (int, api.Errno) { is, e := w.Blank(700 / h.Cluster()); return number(is), e },
	} {
		for n := 1; ; n++ {
			w.f.Refuse(n)
			told, e := call()
			w.f.Refuse(0)
			if e == api.OK {
				if n == 1 {
					t.Error(name, "reads nothing")
				}
				break
			}
			if e != api.ErrIO || told != 0 {
				t.Error(name, n, told, e)
			}
		}
	}
	if !bytes.Equal(w.f.Bytes(), ahead) || w.f.Waiting() != 0 {
		t.Error("something was written")
	}
	w.look(t)
}

func number(is bool) int {
	if is {
		return 1
	}
	return 0
}

// What a crash leaves hangs on nothing but what was done: not on the order in
// which new clusters are kept till the end.
func TestSameCrash(t *testing.T) {
	h := fitted(9, 65536, 400, false)
	crash := func(stop int) (left []byte, waiting int) {
		w := empty(t, h, -1)
		w.f.Stop(stop)
		w.Write(image.Edit{B: pattern(20*512, 4)}, image.Edit{At: 40000, B: pattern(9000, 5)})
		return w.f.Crash(true, false, true), w.f.Waiting()
	}
	stop := 1
	for waiting := 0; waiting < 6 && stop < 1000; stop++ {
		_, waiting = crash(stop + 1)
	}
	first, _ := crash(stop)
	for range 20 {
		if left, _ := crash(stop); !bytes.Equal(left, first) {
			t.Fatal("another crash")
		}
	}
}
