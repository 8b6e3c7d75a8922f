package trim_test

import (
	"bytes"
	"encoding/binary"
	"slices"
	"testing"

	"fettle/api"
	"fettle/disk"
	"fettle/header"
	"fettle/image"
	"fettle/journal"
	"fettle/trim"
)

// TestOpen: a file alone, and over others; what is handed in isn't kept.
func TestOpen(t *testing.T) {
	for _, g := range guests() {
		for _, s := range shapes() {
			w := laid(t, g(), s)
			b := slices.Clone(w.b)
			var behind [][]byte
			for _, f := range w.behind {
				behind = append(behind, slices.Clone(f))
			}
			u, e := trim.Open(b, behind...)
			ok(t, e)
			if u.Broken() || u.Image() == nil || u.Image().File().File != u.File || u.Wrote() != 0 || !bytes.Equal(u.Bytes(), w.b) {
				t.Error("another tool")
			}
			clear(b)
			for _, f := range behind {
				clear(f)
			}
			d := u.Image().Active()
			if got, e := d.Read(0, d.Size()); e != api.OK || !bytes.Equal(got, w.active) {
				t.Error("the active disk is another one; error", e)
			}
			if (u.Image().Behind() != nil) != (s.behind > 0) {
				t.Error("behind it is", u.Image().Behind())
			}
			ok(t, u.Recover())
			w.shows(t, u.Bytes(), false)
		}
	}
}

// TestOpenMostBehind: as many behind it as there may be, and one more.
func TestOpenMostBehind(t *testing.T) {
	g := newGuest(20).mbr()
	w := laid(t, g, shape{bits: 9, behind: api.MaxBacking, seed: 3})
	u := w.open(t)
	w.shows(t, u.Bytes(), false)
	if u, e := trim.Open(w.b, append([][]byte{w.behind[0]}, w.behind...)...); u != nil || e != api.ErrDepth {
		t.Error("one more:", u, e)
	}
}

// TestNotBacked: files behind one that isn't Backed are opened, and not seen.
func TestNotBacked(t *testing.T) {
	w := laid(t, newGuest(20).mbr(), shape{bits: 9, seed: 3})
	other := laid(t, newGuest(30).mbr(), shape{bits: 9, seed: 4})
	u, e := trim.Open(w.b, other.b)
	ok(t, e)
	if u.Image().Behind() != nil {
		t.Error("something is behind it")
	}
	w.shows(t, u.Bytes(), false)
	if u, e := trim.Open(w.b, nil); u != nil || e != api.ErrRange {
		t.Error("nothing is behind it:", u, e)
	}
}

// changed: a file's bytes, other ones at a place.
func changed(b []byte, at int64, p ...byte) []byte {
	out := slices.Clone(b)
	copy(out[at:], p)
	return out
}

// pending: a file's bytes, with a record in its journal that counts.
func pending(t *testing.T, b []byte, at int64, p []byte) []byte {
	t.Helper()
	f, e := disk.New(b)
	ok(t, e)
	h, e := header.Decode(b)
	ok(t, e)
	part := h.JournalAt()
	j, e := journal.New(f, part.From, part.To-part.From)
	ok(t, e)
	ok(t, j.Commit(journal.Rec{At: at, B: p}))
	return f.Bytes()
}

// wrong is a file that can't be opened, and what is answered.
type wrong struct {
	what string
	b    []byte
	want api.Errno
}

// wrongs: files that can't be opened, by the order in which that is told: layer 4's
// error, layer 10's, layer 12's.
func wrongs(t *testing.T, w *world) []wrong {
	h, e := header.Decode(w.b)
	ok(t, e)
	unit := h.Cluster()
	top, counts, rows := h.TopAt().From, h.RefsAt().From, h.SnapsAt().From
	table := int64(binary.LittleEndian.Uint64(w.b[top:]) << 1 >> 9 * uint64(unit))
	other := h
	other.Size -= 512
	b, e := other.Encode()
	ok(t, e)
	return []wrong{
		{"too many bytes", make([]byte, api.MaxFile+1), api.ErrBig},
		{"an image of too many bytes", append(slices.Clone(w.b), make([]byte, api.MaxFile)...), api.ErrBig},
		{"nothing", nil, api.ErrRange},
		{"noughts", make([]byte, 5000), api.ErrMagic},
		{"a byte in the header's cluster", changed(w.b, 30, 1), api.ErrForm},
		{"a short file", w.b[:h.First()*unit-1], api.ErrRange},
		{"another header by the journal", pending(t, w.b, 0, b), api.ErrForm},
		{"no header by the journal", pending(t, w.b, 0, []byte{1}), api.ErrMagic},
		{"a cluster that isn't whole in the file", w.b[:len(w.b)-1], api.ErrRange},
		{"a row's name", changed(w.b, rows+7*32, 1), api.ErrName},
		{"a row by the journal", pending(t, w.b, rows+7*32, []byte{1}), api.ErrName},
		{"a row's cluster", changed(w.b, rows+7*32, 'x'), api.ErrForm},
		{"a byte behind the rows", changed(w.b, rows+8*32, 1), api.ErrForm},
		{"a top table's entry", changed(w.b, top, 1, 0, 0, 0, 0, 0, 0, 0), api.ErrForm},
		{"a table outside", changed(w.b, top, 0, 1, 0, 0, 0, 0, 0, 0), api.ErrRange},
		{"a table that is the guest's bytes, too", changed(w.b, table, w.b[top:top+8]...), api.ErrCross},
		{"a count", changed(w.b, counts+2*h.First(), 9), api.ErrCount},
		{"a byte behind the counts", changed(w.b, counts+2*h.Host, 1), api.ErrForm},
	}
}

// TestOpenErrors: each error of each layer that Open calls, in its order.
func TestOpenErrors(t *testing.T) {
	fails := func(what string, want api.Errno, b []byte, behind ...[]byte) {
		t.Helper()
		if u, e := trim.Open(b, behind...); u != nil || e != want {
			t.Errorf("%s: %v, error %d, not %d", what, u, e, want)
		}
	}
	for _, s := range []shape{{9, 0, true, 1}, {10, 2, true, 1}, {12, 1, false, 1}} {
		w := laid(t, twoVolumes().mbr(), s)
		for _, x := range wrongs(t, w) {
			fails(x.what, x.want, x.b, w.behind...)
			// what is behind is told ahead of all that
			fails(x.what+", too many behind", api.ErrDepth, x.b, make([][]byte, 9)...)
			fails(x.what+", nothing behind", api.ErrRange, x.b, nil)
			fails(x.what+", noughts behind", api.ErrMagic, x.b, append(slices.Clone(w.behind), make([]byte, 5000))...)
			fails(x.what+", too many bytes behind", api.ErrBig, x.b, append(slices.Clone(w.behind), make([]byte, api.MaxFile+1))...)
		}
		if s.behind > 0 {
			fails("nothing is behind it", api.ErrNone, w.b)
			fails("nothing is behind it, and it isn't right", api.ErrNone, changed(w.b, int64(len(w.b))-1, 0)[:len(w.b)-1])
			fails("nothing is behind it, and it is short", api.ErrRange, w.b[:4096])
			fails("the first one behind has none behind it", api.ErrNone, w.b, w.b)
		}
	}
}

// TestBehindAsItIs: an image that is behind isn't checked, only read.
func TestBehindAsItIs(t *testing.T) {
	w := laid(t, twoVolumes().gpt(), shape{bits: 9, behind: 1, seed: 5})
	h, e := header.Decode(w.behind[0])
	ok(t, e)
	w.behind[0][h.RefsAt().From+2*(h.Host-1)] = 1
	if u, e := trim.Open(w.behind[0]); u != nil || e != api.ErrCount {
		t.Error("it is right by itself:", e)
	}
	w.shows(t, w.open(t).Bytes(), false)
}

// TestOpenReplays: what a journal has to be done is done, of the file and of those behind
// it; these aren't changed.
func TestOpenReplays(t *testing.T) {
	w := laid(t, twoVolumes().mbr(), shape{bits: 9, behind: 1, seed: 5})
	h, e := header.Decode(w.b)
	ok(t, e)
	// the last cluster of the file, and of the one behind it, has other bytes
	last := pending(t, w.b, int64(len(w.b))-512, pattern(512, 77))
	behind := pending(t, w.behind[0], int64(len(w.behind[0]))-512, pattern(512, 78))
	kept := slices.Clone(behind)
	u, e := trim.Open(last, behind)
	ok(t, e)
	if u.Image().Replayed() != 1 || !bytes.Equal(u.Bytes()[len(last)-512:], pattern(512, 77)) || u.Waiting() != 0 {
		t.Error("it isn't done")
	}
	if !bytes.Equal(behind, kept) {
		t.Error("what is behind is changed")
	}
	x := right(t, u.Bytes())
	v := right(t, changed(w.behind[0], int64(len(behind))-512, pattern(512, 78)...))
	want := x.Disk(h.First()-1, v.Disk(v.First-1, nil))
	if got, e := u.Image().Active().Read(0, h.Size); e != api.OK || !bytes.Equal(got, want) {
		t.Error("other bytes; error", e)
	}
	if !bytes.Contains(want, pattern(512, 77)) || !bytes.Contains(v.Disk(v.First-1, nil), pattern(512, 78)) {
		t.Error("the test changes nothing")
	}
}

// TestFileCalls: a tool has its file's calls.
func TestFileCalls(t *testing.T) {
	w := laid(t, oneFat().mbr(), shape{bits: 9, seed: 2})
	u := w.open(t)
	if u.Len() != int64(len(w.b)) || u.Wrote() != 0 || u.Waiting() != 0 || u.Stopped() || u.Ops() == 0 {
		t.Error("Len", u.Len(), "Wrote", u.Wrote())
	}
	ops := u.Ops()
	b, e := u.Read(100, 900)
	if e != api.OK || !bytes.Equal(b, w.b[100:1000]) || u.Ops() != ops+1 {
		t.Error("Read", e)
	}
	ok(t, u.Truncate(u.Len()+10))
	if u.Waiting() != 1 || u.Len() != int64(len(w.b))+10 || len(u.Crash()) != len(w.b) || len(u.Crash(true)) != len(w.b)+10 {
		t.Error("Truncate", u.Waiting(), u.Len())
	}
	ok(t, u.Flush())
	if u.Waiting() != 0 || len(u.Crash()) != len(w.b)+10 {
		t.Error("Flush")
	}
	ok(t, u.File.Write(3, w.b[3:5])) // its own Write is the guest's
	if u.Waiting() != 1 {
		t.Error("the file's Write")
	}
	ok(t, u.Write(image.Edit{At: 512, B: []byte("guest's")}))
	if d, e := u.Image().Active().Read(512, 7); e != api.OK || string(d) != "guest's" {
		t.Error("the tool's Write", e)
	}
	u.Stop(1)
	if e := u.Flush(); e != api.ErrIO || !u.Stopped() || u.Broken() {
		t.Error("Stop", e, u.Broken())
	}
	if e := u.Snap("a"); e != api.ErrIO || !u.Broken() {
		t.Error("Snap of a file that is stopped", e)
	}
}

// TestNoTool: a nil tool, and one that Open didn't make.
func TestNoTool(t *testing.T) {
	f, _ := disk.New(nil)
	for _, u := range []*trim.Tool{nil, {}, {File: f}} {
		if u.Broken() || u.Image() != nil {
			t.Error("Broken, Image")
		}
		if u == nil || u.File == nil {
			if e := u.Recover(); e != api.ErrNil || u.Broken() {
				t.Error("Recover", e)
			}
		}
		for _, c := range all() {
			if n, e := c.tool(u); n != 0 || e != api.ErrNil {
				t.Error(c.name, n, e)
			}
		}
		if r, n, e := u.Sparsify(); !empty(r) || n != 0 || e != api.ErrNil {
			t.Error("Sparsify", n, e)
		}
		if r, e := u.Dry(); !empty(r) || e != api.ErrNil {
			t.Error("Dry", e)
		}
	}
}
