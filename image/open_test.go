package image_test

import (
	"bytes"
	"encoding/binary"
	"slices"
	"testing"

	"fettle/api"
	"fettle/disk"
	"fettle/header"
	"fettle/image"
	"fettle/journal"
	"fettle/maps"
)

func TestMake(t *testing.T) {
	for _, h := range append(kinds(false), kinds(true)...) {
		b, e := image.Make(h)
		ok(t, e)
		want := make([]byte, h.First()*h.Cluster())
		head, _ := h.Encode()
		copy(want, head)
		for n := range h.First() {
			binary.LittleEndian.PutUint16(want[h.RefsAt().From+2*n:], 1)
		}
		if !bytes.Equal(b, want) {
			t.Errorf("%+v: other bytes", h)
		}
	}
	right := fitted(9, 65536, 400, false)
	for _, c := range []struct {
		change func(h *header.Header)
		want   api.Errno
	}{
		{func(h *header.Header) { *h = header.Header{} }, api.ErrForm},
		{func(h *header.Header) { h.Bits = 8 }, api.ErrForm},
		{func(h *header.Header) { h.Bits = 13 }, api.ErrForm},
		{func(h *header.Header) { h.Size = 513 }, api.ErrForm},
		{func(h *header.Header) { h.Size = api.MaxGuest }, api.ErrLimit},
		{func(h *header.Header) { h.Host = 0 }, api.ErrLimit},
		{func(h *header.Header) { h.Host = api.MaxHost + 1 }, api.ErrLimit},
		{func(h *header.Header) { h.Journal-- }, api.ErrForm},
		{func(h *header.Header) { h.Host = 32 }, api.ErrForm},
	} {
		h := right
		c.change(&h)
		if b, e := image.Make(h); len(b) != 0 || e != c.want {
			t.Errorf("Make(%+v) = %d bytes, %d", h, len(b), e)
		}
	}
}

// Of images that hold nothing, with a disk behind, shorter or longer, and without one.
func TestHoldsNothing(t *testing.T) {
	for _, backed := range []bool{false, true} {
		for _, h := range kinds(backed) {
			for _, behind := range []int{0, 1, 700, int(h.Size) - 1, int(h.Size), int(h.Size) + 1, int(h.Size) + 9000} {
				w := empty(t, h, behind)
				w.look(t)
				if w.Header != h || w.Replayed() != 0 || w.Active().Size() != h.Size || w.File().File != w.f || w.File().Where() != h.JournalAt() {
					t.Errorf("%+v: other things are told", h)
				}
				if back := w.Behind(); backed != (back != nil) || backed && back.Size() != int64(behind) {
					t.Errorf("%+v: behind it is %v", h, back)
				}
				for g := range w.Guest() {
					if x, own, e := w.Active().Entry(g); x != (maps.Entry{}) || !own || e != api.OK {
						t.Errorf("%+v: Entry(%d) = %+v, %v, %d", h, g, x, own, e)
					}
				}
				high, low, e := w.Ends()
				counts, e2 := w.Counts()
				want := make([]int, h.Host)
				for n := range h.First() {
					want[n] = 1
				}
				if high != h.First()-1 || low != h.First() || e != api.OK || e2 != api.OK || !slices.Equal(counts, want) {
					t.Errorf("%+v: Ends %d, %d, %d, Counts %d", h, high, low, e, e2)
				}
				if w.f.Wrote() != 0 {
					t.Errorf("%+v: something was written", h)
				}
			}
		}
	}
}

// A disk is handed in, and the image isn't Backed: there is nothing behind.
func TestNotBacked(t *testing.T) {
	h := fitted(9, 65536, 400, false)
	b, _ := image.Make(h)
	im, e := image.Open(file(t, b), mem(pattern(65536, 1)))
	ok(t, e)
	p, e := im.Active().Read(0, 65536)
	if im.Behind() != nil || e != api.OK || !bytes.Equal(p, make([]byte, 65536)) {
		t.Error("something is behind it", e)
	}
	if pulled, e := im.Pull(3); pulled || e != api.OK {
		t.Error("Pull", pulled, e)
	}
}

func TestOpenErrors(t *testing.T) {
	refused := func(what string, f *disk.File, back api.Disk, want api.Errno) {
		t.Helper()
		b := f.Bytes()
		if im, e := image.Open(f, back); im != nil || e != want {
			t.Errorf("%s: %v, error %d, not %d", what, im, e, want)
		}
		if !bytes.Equal(f.Bytes(), b) || f.Wrote() != 0 {
			t.Errorf("%s: something was written", what)
		}
	}
	if im, e := image.Open(nil, mem{}); im != nil || e != api.ErrNil {
		t.Error("nil", im, e)
	}
	for _, backed := range []bool{false, true} {
		for _, h := range kinds(backed) {
			b, _ := image.Make(h)
			for _, n := range []int64{0, 1, 27, 28, h.Cluster() - 1, h.Cluster(), int64(len(b)) - 1} {
				refused("a short file", file(t, b[:n]), mem{}, api.ErrRange)
				refused("a short file, and nothing behind", file(t, b[:n]), nil, api.ErrRange)
			}
			wrong := slices.Clone(b)
			wrong[0]++
			refused("another sign", file(t, wrong), nil, api.ErrMagic)
			wrong = slices.Clone(b)
			wrong[28] = 1
			refused("a byte in the header's cluster", file(t, wrong), nil, api.ErrForm)
			if backed {
				refused("nothing behind", file(t, b), nil, api.ErrNone)
			}
			f := file(t, b)
			f.Stop(1)
			refused("a file that is stopped", f, mem{}, api.ErrIO)
		}
	}
}

// left: an image's bytes, with a record in its journal that counts.
func left(t *testing.T, h header.Header, at int64, p []byte) []byte {
	t.Helper()
	b, e := image.Make(h)
	ok(t, e)
	f := file(t, b)
	part := h.JournalAt()
	j, e := journal.New(f, part.From, part.To-part.From)
	ok(t, e)
	ok(t, j.Commit(journal.Rec{At: at, B: p}))
	return f.Bytes()
}

// What the journal makes of the header.
func TestOpenReplays(t *testing.T) {
	for _, backed := range []bool{false, true} {
		for _, h := range kinds(backed) {
			other := func(change func(h *header.Header)) []byte {
				x := h
				change(&x)
				b, e := x.Encode()
				ok(t, e)
				return b
			}
			same := other(func(h *header.Header) {})
			alone := other(func(h *header.Header) { h.Backed = false })
			for _, c := range []struct {
				what string
				at   int64
				p    []byte
				want api.Errno
			}{
				{"the same", 0, same, api.OK},
				{"alone", 0, alone, api.OK},
				{"alone, by its byte", 24, []byte{0}, api.OK},
				{"behind it all", h.First() * h.Cluster(), []byte("abc"), api.OK},
				{"another size", 0, other(func(h *header.Header) { h.Size = 1024 }), api.ErrForm},
				{"another size, alone", 0, other(func(h *header.Header) { h.Size, h.Backed = 1024, false }), api.ErrForm},
				{"another journal", 0, other(func(h *header.Header) { h.Journal++; h.Host += 40 }), api.ErrForm},
				{"another sign", 0, []byte{9}, api.ErrMagic},
				{"a number for Backed", 24, []byte{2}, api.ErrForm},
				{"a size that may not be", 8, make([]byte, 8), api.ErrForm},
			} {
				f := file(t, left(t, h, c.at, c.p))
				ahead := f.Bytes()
				im, e := image.Open(f, mem("behind"))
				if e != c.want || (im == nil) != (e != api.OK) {
					t.Errorf("%+v: %s: error %d", h, c.what, e)
					continue
				}
				if e != api.OK {
					if !bytes.Equal(f.Bytes(), ahead) {
						t.Errorf("%+v: %s: refused, and written", h, c.what)
					}
					continue
				}
				want := h
				want.Backed = backed && !bytes.HasPrefix([]byte(c.what), []byte("alone"))
				if im.Replayed() != 1 || im.Header != want || (im.Behind() != nil) != want.Backed {
					t.Errorf("%+v: %s: %d records, now %+v", h, c.what, im.Replayed(), im.Header)
				}
				if b := f.Bytes(); !bytes.Equal(b[c.at:c.at+int64(len(c.p))], c.p) {
					t.Errorf("%+v: %s: not replayed", h, c.what)
				}
				twice := f.Bytes()
				if im, e := image.Open(f, mem("behind")); e != api.OK || im.Replayed() != 0 || !bytes.Equal(f.Bytes(), twice) {
					t.Errorf("%+v: %s: opened twice isn't as once", h, c.what)
				}
			}
			f := file(t, left(t, h, 0, other(func(h *header.Header) { h.Backed = true })))
			if _, e := image.Open(f, mem{}); (e == api.OK) != backed || !backed && e != api.ErrForm {
				t.Errorf("%+v: Backed by the journal: %d", h, e)
			}
			if backed { // there must be a disk, as long as the header says so
				f := file(t, left(t, h, 0, alone))
				if _, e := image.Open(f, nil); e != api.ErrNone {
					t.Errorf("%+v: nothing behind: %d", h, e)
				}
			}
		}
	}
}

// An Open that is refused at any operation, and done again.
func TestOpenRefused(t *testing.T) {
	h := fitted(10, 65536, 100, false)
	b := left(t, h, h.First()*h.Cluster(), pattern(1000, 3))
	for n := 1; ; n++ {
		f := file(t, b)
		f.Refuse(n)
		im, e := image.Open(f, nil)
		if e == api.OK {
			break
		}
		if im != nil || e != api.ErrIO {
			t.Fatal(n, im, e)
		}
		im, e = image.Open(f, nil)
		if e != api.OK || !bytes.Equal(f.Bytes()[h.First()*h.Cluster():], pattern(1000, 3)) {
			t.Fatal(n, "again", e)
		}
	}
}

// stacked: so many images, one behind the other, each with a byte of its own.
func stacked(t *testing.T, n int) (files [][]byte, want []byte) {
	t.Helper()
	h := fitted(9, 20*512, 80, false)
	want = make([]byte, h.Size)
	var back api.Disk
	for i := range n {
		b, e := image.Make(h)
		ok(t, e)
		f := file(t, b)
		im, e := image.Open(f, back)
		ok(t, e)
		ok(t, im.Write(image.Edit{At: int64(700 * i), B: []byte{byte(i + 1)}}))
		want[700*i] = byte(i + 1)
		files = append(files, f.Bytes())
		back, h.Backed = im.Active(), true
	}
	return files, want
}

func TestStack(t *testing.T) {
	if d, e := image.Stack(); d != nil || e != api.OK {
		t.Error("of none", d, e)
	}
	for n := 1; n <= api.MaxBacking; n++ {
		files, want := stacked(t, n)
		d, e := image.Stack(files...)
		ok(t, e)
		b, e := d.Read(0, d.Size())
		if e != api.OK || !bytes.Equal(b, want) {
			t.Errorf("%d images: error %d, or other bytes", n, e)
		}
	}
	files, _ := stacked(t, api.MaxBacking+1)
	for _, l := range [][][]byte{files, make([][]byte, 9), make([][]byte, 100)} {
		if d, e := image.Stack(l...); d != nil || e != api.ErrDepth {
			t.Error("too many", d, e)
		}
	}
}

// What stands behind an image that isn't Backed isn't seen; one that can't be
// opened ends it all.
func TestStackOfOthers(t *testing.T) {
	files, _ := stacked(t, 3)
	alone, _ := stacked(t, 1)
	d, e := image.Stack(append(files, alone...)...)
	ok(t, e)
	if b, _ := d.Read(0, 2000); b[0] != 1 || b[700] != 0 || b[1400] != 0 {
		t.Error("what isn't behind is seen")
	}
	for _, c := range []struct {
		what  string
		files [][]byte
		want  api.Errno
	}{
		{"the first is Backed", files[1:], api.ErrNone},
		{"nothing", [][]byte{nil}, api.ErrRange},
		{"nothing in between", [][]byte{files[0], {}, files[2]}, api.ErrRange},
		{"other bytes", [][]byte{files[0], files[1], make([]byte, 5000)}, api.ErrMagic},
		{"too many bytes", [][]byte{files[0], make([]byte, api.MaxFile+1)}, api.ErrBig},
	} {
		if d, e := image.Stack(c.files...); d != nil || e != c.want {
			t.Errorf("%s: %v, %d", c.what, d, e)
		}
	}
}

// Read alone: what a journal has left to be done is done on a copy.
func TestStackReplays(t *testing.T) {
	h := fitted(9, 65536, 100, false)
	first := h.First()
	b := left(t, h, h.TopAt().From, []byte{0, byte(first), 0, 0, 0, 0, 0, 0})
	b = append(b, make([]byte, 3*512)...)
	b[first*512+9] = byte(first + 1) // the second entry of the table that is there behind the Replay
	copy(b[(first+1)*512:], "text")
	kept := slices.Clone(b)
	d, e := image.Stack(b)
	ok(t, e)
	p, e := d.Read(510, 7)
	if e != api.OK || string(p) != "\x00\x00text\x00" || !bytes.Equal(b, kept) {
		t.Errorf("%q, error %d", p, e)
	}
}

// The disk that a stack shows stands behind an image.
func TestOverStack(t *testing.T) {
	files, want := stacked(t, 4)
	back, e := image.Stack(files...)
	ok(t, e)
	h := fitted(12, 16*512, 60, true)
	b, _ := image.Make(h)
	im, e := image.Open(file(t, b), back)
	ok(t, e)
	ok(t, im.Write(edit(1, "top")))
	copy(want[1:], "top")
	if p, e := im.Active().Read(0, 16*512); e != api.OK || !bytes.Equal(p, want[:16*512]) {
		t.Error("other bytes, or error", e)
	}
}
