package parts_test

import (
	"bytes"
	"hash/crc32"
	"math"
	"math/rand"
	"slices"
	"testing"

	"fettle/api"
	"fettle/disk"
	"fettle/header"
	"fettle/image"
	"fettle/parts"
)

// edges: places and lengths around those of so many bytes.
func edges(size int64) []int64 {
	return []int64{math.MinInt64, math.MinInt64 + 1, -size, -1, 0, 1, 2, size / 2, size - 1, size, size + 1, math.MaxInt64 - 1, math.MaxInt64}
}

// reads: a disk reads as these bytes, and refuses all else; what it answers is new memory.
func reads(t *testing.T, d api.Disk, want []byte) {
	t.Helper()
	want = bytes.Clone(want)
	size := int64(len(want))
	if d.Size() != size {
		t.Fatalf("Size: %d, not %d", d.Size(), size)
	}
	for _, at := range edges(size) {
		for _, n := range edges(size) {
			b, e := d.Read(at, n)
			if at < 0 || n < 0 || at > size || n > size-at {
				if e != api.ErrRange || len(b) > 0 {
					t.Fatalf("%d at %d: %d, %d bytes", n, at, e, len(b))
				}
				continue
			}
			if e != api.OK || !bytes.Equal(b, want[at:at+n]) {
				t.Fatalf("%d at %d: %d, %v", n, at, e, b)
			}
			for i := range b {
				b[i] ^= 255
			}
			_ = append(b, 1, 2, 3, 4)
		}
	}
	if b, e := d.Read(0, size); e != api.OK || !bytes.Equal(b, want) {
		t.Fatal("an answer isn't new memory", e)
	}
}

func TestMem(t *testing.T) {
	reads(t, parts.Mem(nil), nil)
	for n := range 20 {
		b := pattern(n, 1)
		reads(t, parts.Mem(b), b)
		room := parts.Mem(pattern(n+8, 2)[:n]) // the room behind isn't its own
		reads(t, room, bytes.Clone(room))
	}
	b := []byte("abcdef")
	m := parts.Mem(b)
	b[2] = 'x' // it is the bytes, not a copy of them
	if c, e := m.Read(1, 3); e != api.OK || string(c) != "bxd" {
		t.Error(c, e)
	}
}

func TestWindow(t *testing.T) {
	d := pattern(40, 3)
	for from := int64(-2); from < 44; from++ {
		for to := int64(-2); to < 44; to++ {
			for name, disk := range map[string]api.Disk{"bare": bare(d), "Mem": parts.Mem(d)} {
				w, e := parts.Window(disk, api.Ext{From: from, To: to})
				if from < 0 || to < from || to > 40 {
					if w != nil || e != api.ErrRange {
						t.Fatalf("%s: %d to %d: %v, %d", name, from, to, w, e)
					}
					continue
				}
				ok(t, e)
				reads(t, w, d[from:to])
			}
		}
	}
	for _, from := range edges(40) {
		for _, to := range edges(40) {
			w, e := parts.Window(bare(d), api.Ext{From: from, To: to})
			if in := from >= 0 && from <= to && to <= 40; in != (e == api.OK) || in != (w != nil) || !in && e != api.ErrRange {
				t.Errorf("%d to %d: %v, %d", from, to, w, e)
			}
		}
	}
	if w, e := parts.Window(nil, api.Ext{}); w != nil || e != api.ErrNil {
		t.Error(w, e)
	}
	if w, e := parts.Window(nil, api.Ext{From: -1, To: -2}); w != nil || e != api.ErrNil {
		t.Error(w, e)
	}
}

func TestWindowInWindow(t *testing.T) {
	d := pattern(60, 4)
	r := rand.New(rand.NewSource(5))
	for range 200 {
		w, want := api.Disk(bare(d)), d
		for range 1 + r.Intn(5) {
			from := r.Intn(len(want) + 1)
			to := from + r.Intn(len(want)-from+1)
			var e api.Errno
			w, e = parts.Window(w, api.Ext{From: int64(from), To: int64(to)})
			ok(t, e)
			want = want[from:to]
		}
		reads(t, w, want)
	}
}

// A window shows the disk as it is now; the disk's errors come through, and nothing
// with them; it asks for no byte outside of itself.
func TestWindowIsTheDisk(t *testing.T) {
	d := pattern(40, 3)
	w, e := parts.Window(bare(d), api.Ext{From: 10, To: 20})
	ok(t, e)
	d[12] ^= 1
	reads(t, w, d[10:20])
	for _, want := range []api.Errno{api.ErrIO, api.ErrForm} {
		w, e = parts.Window(refusing(d, 1, want), api.Ext{From: 10, To: 20})
		ok(t, e)
		if b, e := w.Read(0, 3); e != want || len(b) > 0 {
			t.Error(b, e)
		}
		reads(t, w, d[10:20])
	}
	for n := range 20 {
		other := &odd{bare: d, answer: func(_ int, at, m int64) ([]byte, api.Errno, bool) {
			if at < 10 || at+m > 20 {
				t.Error("asked for", m, "at", at)
			}
			return make([]byte, n), api.OK, true
		}}
		w, e = parts.Window(other, api.Ext{From: 10, To: 20})
		ok(t, e)
		if b, e := w.Read(2, 5); n != 5 && (e != api.ErrRange || len(b) > 0) || n == 5 && (e != api.OK || len(b) != 5) {
			t.Error(n, b, e)
		}
	}
}

// An image's disk with a table: a nil one is none, its errors come through; windows of
// it, and windows of those, read as its bytes.
func TestOnImage(t *testing.T) {
	var view *image.View
	if m, e := parts.Parse(view); e != api.ErrNil || !same(m, parts.Map{}) {
		t.Error(m, e)
	}
	if b, e := parts.Content(view, api.Path{Size: 1, Runs: []api.Ext{{To: 1}}}); e != api.ErrNil || len(b) > 0 {
		t.Error(b, e)
	}
	w := usualGpt()
	h := header.Header{Bits: 9, Size: int64(len(w.d)), Host: 400, Journal: 29}
	b, e := image.Make(h)
	ok(t, e)
	f, e := disk.New(b)
	ok(t, e)
	im, e := image.Open(f, nil)
	ok(t, e)
	for at := 0; at < len(w.d); at += 4096 {
		ok(t, im.Write(image.Edit{At: int64(at), B: w.d[at : at+4096]}))
	}
	m, e := parts.Parse(im.Active())
	if e != api.OK || !same(m, w.want()) {
		t.Fatal(m, e)
	}
	p, _ := m.Last()
	part, e := parts.Window(im.Active(), p.Ext)
	ok(t, e)
	reads(t, part, w.d[p.Ext.From:p.Ext.To])
	l, e := m.Resize(im.Active(), p, p.Ext.To+512)
	ok(t, e)
	var edits []image.Edit
	for _, x := range l {
		edits = append(edits, image.Edit{At: x.At, B: x.B})
	}
	ok(t, im.Write(edits...))
	if m, e = parts.Parse(im.Active()); e != api.OK || m.Parts[len(m.Parts)-1].Ext.To != p.Ext.To+512 {
		t.Error(m, e)
	}
	f.Stop(1)
	if m, e := parts.Parse(im.Active()); e != api.ErrIO || !same(m, parts.Map{}) {
		t.Error(m, e)
	}
	if b, e := part.Read(0, 1); e != api.ErrIO || len(b) > 0 {
		t.Error(b, e)
	}
}

// contentByWords: what Content must answer, of runs that are short.
func contentByWords(d []byte, p api.Path) ([]byte, api.Errno) {
	if p.Size < 0 || p.Size > api.MaxGuest {
		return nil, api.ErrRange
	}
	left := p.Size
	for _, x := range p.Runs {
		if x.To < x.From {
			return nil, api.ErrRange
		}
		for at := x.From; at < x.To; at++ {
			if left--; left < 0 {
				return nil, api.ErrRange
			}
		}
	}
	var out []byte
	for _, x := range p.Runs {
		if x.From < 0 {
			out = append(out, make([]byte, x.To-x.From)...)
		} else if x.To > int64(len(d)) {
			return nil, api.ErrRange
		} else {
			out = append(out, d[x.From:x.To]...)
		}
	}
	if left > 0 {
		return nil, api.ErrCount
	}
	return out, api.OK
}

func clonePath(p api.Path) api.Path {
	p.Runs = slices.Clone(p.Runs)
	return p
}

func samePath(a, b api.Path) bool {
	return a.Name == b.Name && a.Kind == b.Kind && a.Size == b.Size && slices.Equal(a.Runs, b.Runs)
}

func TestContent(t *testing.T) {
	r := rand.New(rand.NewSource(7))
	d := pattern(64, 5)
	ahead := bytes.Clone(d)
	told := map[api.Errno]int{}
	for range 40000 {
		p := api.Path{Kind: r.Intn(4), Name: "n"}
		size := int64(0)
		for range r.Intn(5) {
			x := api.Ext{From: r.Int63n(70) - 6}
			x.To = x.From + r.Int63n(14)
			if r.Intn(40) == 0 {
				x.To = x.From - 1
			}
			size += x.To - x.From
			p.Runs = append(p.Runs, x)
		}
		p.Size = size + []int64{0, 0, 0, 0, 1, -1}[r.Intn(6)]
		was := clonePath(p)
		want, e := contentByWords(d, p)
		b, got := parts.Content(bare(d), p)
		if got != e || !bytes.Equal(b, want) {
			t.Fatalf("%+v: %d, not %d; %v, not %v", p, got, e, b, want)
		}
		if !samePath(p, was) || !bytes.Equal(d, ahead) {
			t.Fatal("what was handed in is changed")
		}
		for i := range b {
			b[i] ^= 255
		}
		if !bytes.Equal(d, ahead) {
			t.Fatal("an answer isn't new memory")
		}
		told[e]++
	}
	for _, e := range []api.Errno{api.OK, api.ErrRange, api.ErrCount} {
		if told[e] < 300 {
			t.Error(told)
		}
	}
}

func TestContentWrong(t *testing.T) {
	d := bare("abcdef")
	run := func(size int64, runs ...int64) api.Path {
		p := api.Path{Size: size}
		for i := 0; i < len(runs); i += 2 {
			p.Runs = append(p.Runs, api.Ext{From: runs[i], To: runs[i+1]})
		}
		return p
	}
	for i, c := range []struct {
		d    api.Disk
		p    api.Path
		want api.Errno
		b    string
	}{
		{nil, run(-1), api.ErrNil, ""},
		{nil, run(0), api.ErrNil, ""},
		{d, run(0), api.OK, ""},
		{d, run(-1), api.ErrRange, ""},
		{d, run(math.MinInt64), api.ErrRange, ""},
		{d, run(math.MaxInt64), api.ErrRange, ""},
		{d, run(api.MaxGuest), api.ErrCount, ""},
		{d, run(api.MaxGuest + 1), api.ErrRange, ""},
		{d, run(6, 0, 6), api.OK, "abcdef"},
		{d, run(2, 0, 1), api.ErrCount, ""},
		{d, run(2, 0, 3), api.ErrRange, ""},
		{d, run(2, 0, 2, 6, 6), api.OK, "ab"},
		{d, run(2, 0, 2, 3, 2), api.ErrRange, ""},
		{d, run(2, 5, 7), api.ErrRange, ""},
		{d, run(3, 5, 7), api.ErrRange, ""}, // what isn't there is told ahead of too few
		{d, run(5, -5, 0), api.OK, "\x00\x00\x00\x00\x00"},
		{d, run(5, -2, 3), api.OK, "\x00\x00\x00\x00\x00"}, // where it begins counts
		{d, run(4, 2, 4, 2, 4), api.OK, "cdcd"},
		{d, run(9, math.MinInt64, math.MaxInt64), api.ErrRange, ""},
		{d, run(9, math.MinInt64, math.MinInt64+9), api.OK, "\x00\x00\x00\x00\x00\x00\x00\x00\x00"},
		{d, run(9, math.MinInt64, -1), api.ErrRange, ""},
		{d, run(9, math.MaxInt64, math.MinInt64), api.ErrRange, ""},
		{d, run(9, 0, math.MaxInt64), api.ErrRange, ""},
		{d, run(9, math.MaxInt64-9, math.MaxInt64), api.ErrRange, ""},
		{d, run(9, -1, math.MaxInt64), api.ErrRange, ""},
		{refusing(d, 1, api.ErrIO), run(2, 0, 2), api.ErrIO, ""},
		{refusing(d, 2, api.ErrIO), run(2, 0, 1, 0, 1), api.ErrIO, ""},
		{refusing(d, 2, api.ErrState), run(2, 0, 1, 0, 1), api.ErrState, ""},
		{refusing(d, 1, api.ErrIO), run(9, 0, 2), api.ErrIO, ""},          // ahead of too few
		{refusing(d, 1, api.ErrIO), run(2, 0, 1, 2, 1), api.ErrRange, ""}, // all runs are looked at first
		{refusing(d, 1, api.ErrIO), run(2, 0, 1, 0, 2), api.ErrRange, ""},
		{refusing(d, 1, api.ErrIO), run(1, -1, 0), api.OK, "\x00"}, // noughts aren't read
	} {
		b, e := parts.Content(c.d, c.p)
		if e != c.want || string(b) != c.b {
			t.Errorf("%d: %d, not %d; %q", i, e, c.want, b)
		}
	}
	for n := range 9 {
		other := &odd{bare: d, answer: func(int, int64, int64) ([]byte, api.Errno, bool) { return make([]byte, n), api.OK, true }}
		if b, e := parts.Content(other, run(5, 0, 5)); (e == api.OK) != (n == 5) || e != api.OK && (e != api.ErrRange || len(b) > 0) {
			t.Error(n, b, e)
		}
	}
}

// The greatest file, of noughts and of a disk.
func TestContentGreatest(t *testing.T) {
	half := int64(api.MaxGuest / 2)
	d := pattern(int(half), 9)
	b, e := parts.Content(bare(d), api.Path{Size: 2 * half, Runs: []api.Ext{{From: -half}, {To: half}}})
	if e != api.OK || int64(len(b)) != 2*half || !bytes.Equal(b[:half], make([]byte, half)) || !bytes.Equal(b[half:], d) {
		t.Error(e, len(b))
	}
	if b, e := parts.Content(bare(d), api.Path{Size: 2 * half, Runs: []api.Ext{{From: -half}, {To: half}, {To: 1}}}); e != api.ErrRange || len(b) > 0 {
		t.Error(e, len(b))
	}
}

func TestSums(t *testing.T) {
	d := []byte("123456789abc")
	file := func(runs ...api.Ext) api.Path {
		p := api.Path{Kind: api.File, Runs: runs}
		for _, x := range runs {
			p.Size += x.To - x.From
		}
		return p
	}
	wrong := api.Path{Size: 3, Runs: []api.Ext{{From: 9, To: 5}}} // of others nothing is looked at
	folder := wrong
	folder.Kind = api.Folder
	l := []api.Path{file(api.Ext{To: 9}), folder, file(), wrong, file(api.Ext{From: 5, To: 9}, api.Ext{From: -3}, api.Ext{To: 5})}
	was := slices.Clone(l)
	want := []uint32{0xCBF43926, 0, 0, 0, crc32.ChecksumIEEE([]byte("6789\x00\x00\x0012345"))}
	s, e := parts.Sums(bare(d), l)
	if e != api.OK || !slices.Equal(s, want) {
		t.Error(s, e)
	}
	if !slices.EqualFunc(l, was, samePath) || string(d) != "123456789abc" {
		t.Error("what was handed in is changed")
	}
	if s, e := parts.Sums(bare(d), nil); e != api.OK || len(s) != 0 {
		t.Error(s, e)
	}
	for e, p := range map[api.Errno]api.Path{api.ErrRange: file(api.Ext{From: 9, To: 13}), api.ErrCount: {Kind: api.File, Size: 1}} {
		if s, got := parts.Sums(bare(d), slices.Insert(slices.Clone(l), 2, p)); got != e || len(s) > 0 {
			t.Error(s, got)
		}
	}
	if s, e := parts.Sums(nil, l); e != api.ErrNil || len(s) > 0 {
		t.Error(s, e)
	}
	for n := range 3 {
		if s, e := parts.Sums(refusing(d, n+1, api.ErrIO), l); e != api.ErrIO || len(s) > 0 {
			t.Error(n, s, e)
		}
	}
}

func TestFind(t *testing.T) {
	l := []api.Path{{Name: ""}, {Name: "/a", Kind: api.Folder}, {Name: "/a/b", Size: 3, Runs: []api.Ext{{To: 3}}}, {Name: "/a", Size: 9}, {Name: "/\xff\u00e9"}}
	for name, i := range map[string]int{"": 0, "/a": 1, "/a/b": 2, "/\xff\u00e9": 4} {
		if p, has := parts.Find(l, name); !has || !samePath(p, l[i]) {
			t.Error(name, p, has)
		}
	}
	for _, name := range []string{"a", "/A", "/a/", "/a/b ", "/a\x00"} {
		if p, has := parts.Find(l, name); has || !samePath(p, api.Path{}) {
			t.Error(name, p, has)
		}
	}
	if p, has := parts.Find(nil, ""); has || !samePath(p, api.Path{}) {
		t.Error(p, has)
	}
	p, _ := parts.Find(l, "/a/b")
	p.Runs[0].From = 7
	if l[2].Runs[0].From != 0 {
		t.Error("an answer isn't new memory")
	}
}
