package plan_test

import (
	"bytes"
	"math"
	"math/rand"
	"slices"
	"testing"

	"fettle/api"
	"fettle/extent"
	"fettle/image"
	"fettle/parts"
	"fettle/plan"
	"fettle/snapshot"
)

// differByWords: what Differ must answer: byte by byte.
func differByWords(a, b []byte) (s extent.Set) {
	add := func(at int) {
		if last := len(s) - 1; last >= 0 && s[last].To == int64(at) {
			s[last].To++
			return
		}
		s = append(s, api.Ext{From: int64(at), To: int64(at + 1)})
	}
	short := min(len(a), len(b))
	for at := range max(len(a), len(b)) {
		from := at / 512 * 512
		to := min(from+512, short)
		if at >= short || string(a[from:to]) != string(b[from:to]) {
			add(at)
		}
	}
	return s
}

// unlike: Differ's answer, both ways round; the disks stay as they are.
func unlike(t *testing.T, what string, a, b []byte) extent.Set {
	t.Helper()
	x, y := bytes.Clone(a), bytes.Clone(b)
	want := differByWords(a, b)
	for _, disks := range [][2]api.Disk{{bare(a), bare(b)}, {bare(b), bare(a)}, {parts.Mem(a), bare(b)}} {
		if s, e := plan.Differ(disks[0], disks[1]); e != api.OK || !slices.Equal(s, want) {
			t.Fatalf("%s: error %d; %v, not %v", what, e, s, want)
		}
	}
	if !bytes.Equal(a, x) || !bytes.Equal(b, y) {
		t.Fatalf("%s: what was handed in is changed", what)
	}
	return want
}

func TestDifferByHand(t *testing.T) {
	a := pattern(5*512+100, 1)
	if s := unlike(t, "the same", a, bytes.Clone(a)); len(s) > 0 {
		t.Error(s)
	}
	for at := range a { // each byte alone
		b := bytes.Clone(a)
		b[at]++
		from := int64(at / 512 * 512)
		if s := unlike(t, "a byte", a, b); !slices.Equal(s, extent.Set{{From: from, To: min(from+512, 2660)}}) {
			t.Fatal(at, s)
		}
	}
	for n := range a { // one is shorter
		want := extent.Set{{From: int64(n), To: 2660}}
		if s := unlike(t, "shorter", a, a[:n]); !slices.Equal(s, want) {
			t.Fatal(n, s)
		}
		if n == 0 {
			continue
		}
		b := bytes.Clone(a[:n])
		b[n-1]++ // and its last sector is another
		want[0].From = int64((n - 1) / 512 * 512)
		if s := unlike(t, "shorter, and another", a, b); !slices.Equal(s, want) {
			t.Fatal(n, s)
		}
	}
	unlike(t, "nothing", nil, nil)
	unlike(t, "nothing, and something", nil, a)
}

func TestDifferAny(t *testing.T) {
	r := rand.New(rand.NewSource(1))
	for range 300 {
		a := pattern(r.Intn(300*512), r.Int63())
		b := bytes.Clone(a[:len(a)-r.Intn(len(a)/2+1)*r.Intn(2)])
		if r.Intn(4) == 0 {
			b = append(b, pattern(r.Intn(2000), 3)...)
		}
		for range r.Intn(10) {
			if len(b) > 0 {
				b[r.Intn(len(b))] ^= 1
			}
		}
		unlike(t, "any", a, b)
	}
}

func TestDifferErrors(t *testing.T) {
	d := pattern(200*512+5, 1)
	fails := func(what string, a, b api.Disk, want api.Errno) {
		t.Helper()
		if s, e := plan.Differ(a, b); e != want || len(s) > 0 {
			t.Errorf("%s: error %d, not %d; %v", what, e, want, s)
		}
	}
	fails("none", nil, nil, api.ErrNil)
	fails("no first", nil, bare(d), api.ErrNil)
	fails("no second", bare(d), nil, api.ErrNil)
	fails("no first, and an error", nil, refusing(d, 1, api.ErrIO), api.ErrNil)
	count := refusing(d, 0, api.ErrIO)
	_, e := plan.Differ(count, bare(d))
	ok(t, e)
	for n := 1; n <= count.reads; n++ {
		for _, e := range []api.Errno{api.ErrIO, api.ErrRange, api.ErrForm} {
			fails("the first one's", refusing(d, n, e), bare(d), e)
			fails("the second one's", bare(d), refusing(d, n, e), e)
			fails("both", refusing(d, n, e), refusing(d, n, api.ErrState), e)
		}
		for _, b := range [][]byte{nil, d, d[:1]} {
			short := &odd{bare: d, answer: func(read int, _, _ int64) ([]byte, api.Errno, bool) { return b, api.OK, read == n }}
			fails("other bytes than were asked for", short, bare(d), api.ErrRange)
			short.reads = 0
			fails("other bytes than were asked for", bare(d), short, api.ErrRange)
		}
	}
	// sizes that can't be
	for _, size := range []int64{-1, -512, math.MinInt64} {
		if s, e := plan.Differ(sized{bare(d), size}, bare(d)); e != api.OK || !slices.Equal(s, extent.Set{{To: int64(len(d))}}) {
			t.Error(size, s, e)
		}
		if s, e := plan.Differ(sized{bare(d), size}, sized{bare(d), size}); e != api.OK || len(s) > 0 {
			t.Error(size, s, e)
		}
	}
	fails("a size that isn't so", sized{bare(d), 1 << 60}, sized{bare(d), 1 << 60}, api.ErrRange)
}

// sized is a disk that tells another size.
type sized struct {
	api.Disk
	size int64
}

func (s sized) Size() int64 { return s.size }

// TestDifferViews: a snapshot, and the active disk.
func TestDifferViews(t *testing.T) {
	h := byHand(t, nil)
	h.put(t, 3, 4, 5)
	ok(t, snapshot.Create(h.Image, "s"))
	ok(t, h.Write(image.Edit{At: 4*512 + 9, B: []byte{h.d[4*512+9] + 1}}, image.Edit{At: 5 * 512, B: h.d[5*512 : 6*512]}, image.Edit{At: 99*512 - 1, B: []byte{1, 0}}))
	v, e := snapshot.View(h.Image, "s")
	ok(t, e)
	wrote := h.f.Wrote()
	s, e := plan.Differ(v, h.Active())
	if e != api.OK || !slices.Equal(s, extent.Set{{From: 4 * 512, To: 5 * 512}, {From: 98 * 512, To: 99 * 512}}) || h.f.Wrote() != wrote {
		t.Error(s, e)
	}
	h.f.Stop(1)
	if s, e := plan.Differ(v, h.Active()); e != api.ErrIO || len(s) > 0 {
		t.Error(s, e)
	}
}
