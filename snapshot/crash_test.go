package snapshot_test

import (
	"slices"
	"testing"

	"fettle/api"
	"fettle/image"
	"fettle/rawimage"
	"fettle/snapshot"
)

// scene: a call on a world, and what must be behind it.
type scene struct {
	name string
	w    *world
	call func(w *world) api.Errno
	done func(w *world)
}

// three: a world with three snapshots, one of them of a disk that holds nothing.
func three(t *testing.T, bits int) *world {
	t.Helper()
	w := empty(t, fitted(bits, 16*4096, 200, true))
	w.create(t, "empty")
	w.write(t, 600, pattern(5000, 1))
	w.create(t, "middle")
	w.write(t, 700, pattern(300, 2))
	w.write(t, 40000, pattern(300, 3))
	w.create(t, "last")
	w.write(t, 800, []byte("now"))
	w.look(t)
	return w
}

func scenes(t *testing.T, bits int) []scene {
	w := three(t, bits)
	alone := three(t, bits)
	alone.delete(t, "empty")
	alone.delete(t, "middle")
	alone.delete(t, "last")
	for g := range alone.Guest() {
		_, e := alone.Pull(g)
		ok(t, e)
	}
	alone.create(t, "held")
	list := []scene{
		{"Create", w, func(w *world) api.Errno { return snapshot.Create(w.Image, "new") }, func(w *world) { w.created("new") }},
		{"Alone", alone, func(w *world) api.Errno { return snapshot.Alone(w.Image) }, func(w *world) {}},
		{"Write", w, func(w *world) api.Errno { return w.Write(image.Edit{At: 650, B: []byte("written")}) }, func(w *world) { copy(w.active[650:], "written") }},
	}
	for _, name := range []string{"empty", "middle", "last"} {
		list = append(list,
			scene{"Delete " + name, w, func(w *world) api.Errno { return snapshot.Delete(w.Image, name) }, func(w *world) { w.deleted(name) }},
			scene{"Back " + name, w, func(w *world) api.Errno { return snapshot.Back(w.Image, name) }, func(w *world) { w.active = slices.Clone(w.disks[name]) }})
	}
	return list
}

// essence: all of the file that counts.
func (w *world) essence(t *testing.T) string {
	t.Helper()
	x, fault := rawimage.Of(w.f.Bytes())
	if fault != "" {
		t.Fatal("the image isn't right:", fault)
	}
	return x.Essence()
}

// Calls that are cut off at any operation, whatever is kept: they are done, or
// not begun, and all that is shown is what it must be then.
func TestCutOff(t *testing.T) {
	for _, bits := range []int{9, 11} {
		for _, s := range scenes(t, bits) {
			b := s.w.f.Bytes()
			before := s.w.over(t, b)
			after := s.w.over(t, b)
			ok(t, s.call(after))
			s.done(after)
			after.look(t)
			dones, nones := 0, 0
			for n := 1; ; n++ {
				w := s.w.over(t, b)
				w.f.Stop(n)
				e := s.call(w)
				for i, keep := range rawimage.Keeps(w.f.Waiting()) {
					again := s.w.over(t, w.f.Crash(keep...))
					switch again.essence(t) {
					case after.essence(t):
						dones++
						s.done(again)
					case before.essence(t):
						nones++
						if e == api.OK {
							t.Fatalf("%s: it was done, and is lost", s.name)
						}
					default:
						t.Fatalf("%s: cut off at %d, kept %v: neither done nor not begun", s.name, n, keep)
					}
					if i%5 == 0 {
						again.look(t)
					}
				}
				if e == api.OK {
					break
				}
				if e != api.ErrIO {
					t.Fatal(s.name, n, "error", e)
				}
			}
			if dones == 0 || nones == 0 {
				t.Errorf("%s: %d times done, %d times not", s.name, dones, nones)
			}
		}
	}
}

// One operation is refused, and the power stays: the image goes on with its
// snapshots, the call done, or not begun.
func TestRefused(t *testing.T) {
	for _, s := range scenes(t, 9) {
		b := s.w.f.Bytes()
		before := s.w.over(t, b)
		after := s.w.over(t, b)
		ok(t, s.call(after))
		for n := 1; ; n++ {
			w := s.w.over(t, b)
			w.f.Refuse(n)
			e := s.call(w)
			if e == api.OK {
				break
			}
			if e != api.ErrIO {
				t.Fatal(s.name, n, "error", e)
			}
			if _, e := snapshot.List(w.Image); e != api.OK {
				t.Fatal(s.name, n, "List", e)
			}
			switch w.essence(t) {
			case after.essence(t):
				s.done(w)
			case before.essence(t):
			default:
				t.Fatalf("%s: operation %d refused: neither done nor not begun", s.name, n)
			}
			w.look(t)
			w.create(t, "more")
			w.write(t, 100, pattern(3000, 8))
			w.back(t, "more")
			w.delete(t, "more")
			w = w.over(t, w.f.Crash())
			w.look(t)
		}
	}
}

// The same call at once, behind its refusal: it isn't done twice.
func TestDoneAgain(t *testing.T) {
	for _, s := range scenes(t, 9) {
		b := s.w.f.Bytes()
		after := s.w.over(t, b)
		ok(t, s.call(after))
		s.done(after)
		for n := 1; ; n++ {
			w := s.w.over(t, b)
			w.f.Refuse(n)
			if s.call(w) == api.OK {
				break
			}
			switch e := s.call(w); e {
			case api.OK, api.ErrTwice, api.ErrNone, api.ErrState:
			default:
				t.Fatalf("%s: operation %d refused, and done again: error %d", s.name, n, e)
			}
			s.done(w)
			if len(w.list) > len(after.list) {
				t.Fatal(s.name, "is done twice")
			}
			w.look(t)
			w.over(t, w.f.Crash()).look(t)
		}
	}
}
