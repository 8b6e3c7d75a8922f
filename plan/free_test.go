package plan_test

import (
	"bytes"
	"math/rand"
	"slices"
	"testing"

	"fettle/api"
	"fettle/extent"
	"fettle/fat"
	"fettle/image"
	"fettle/mbr"
	"fettle/parts"
	"fettle/plan"
	"fettle/resize"
)

// told: Free answers what a guest's disk has, and the disk stays as it is.
func (g *guest) told(t *testing.T) extent.Set {
	t.Helper()
	ahead := bytes.Clone(g.d)
	list, free, e := plan.Free(bare(g.d))
	if want := g.sectors(gap, unused); e != api.OK || !sameVolumes(list, g.list) || !slices.Equal(free, want) {
		t.Fatalf("error %d; %+v, not %+v; %v, not %v", e, list, g.list, free, want)
	}
	if !bytes.Equal(g.d, ahead) {
		t.Fatal("what was handed in is changed")
	}
	return free
}

// reached: a byte that something reaches isn't free: of a table, of a partition that
// isn't known, of a path.
func (g *guest) reached(t *testing.T, free extent.Set) {
	t.Helper()
	m, e := parts.Parse(bare(g.d))
	ok(t, e)
	not := slices.Clone(m.Held)
	for _, p := range m.Parts {
		w, e := parts.Window(bare(g.d), p.Ext)
		ok(t, e)
		kind, paths, _, _ := resize.Known(w)
		if kind == resize.Unknown {
			not = append(not, p.Ext)
		}
		for _, path := range paths {
			for _, x := range path.Runs {
				if x.From >= 0 {
					not = append(not, api.Ext{From: p.Ext.From + x.From, To: p.Ext.From + x.To})
				}
			}
		}
	}
	if both := free.Meet(not); len(both) > 0 {
		t.Fatal("free, and reached:", both)
	}
}

func TestFreeAny(t *testing.T) {
	kinds := map[int]int{}
	for seed := range int64(150) {
		r := rand.New(rand.NewSource(seed))
		for _, g := range []*guest{anyMbr(r), anyGpt(r)} {
			g.reached(t, g.told(t))
			for _, v := range g.list {
				kinds[v.Kind]++
			}
		}
	}
	if kinds[resize.Fat] < 50 || kinds[resize.Ext] < 50 || kinds[resize.Unknown] < 50 {
		t.Error("too few of a kind:", kinds)
	}
}

// TestFreeByHand: a disk, and what is told of it, written out.
func TestFreeByHand(t *testing.T) {
	d := make([]byte, 200*512+7)
	a, _ := mbr.Make(mbr.Entry{Type: 7, First: 120, Count: 10}, mbr.Entry{Type: 12, First: 10, Count: 66})
	b, _ := fat.Make(64, 1)
	copy(d, a)
	copy(d[10*512:], b)
	list, free, e := plan.Free(parts.Mem(d))
	ok(t, e)
	at := func(from, to int64) api.Ext { return api.Ext{From: 512 * from, To: 512 * to} }
	want := []plan.Volume{
		{Ext: at(10, 76), Kind: resize.Fat, Free: extent.Set{at(17, 74)}},
		{Ext: at(120, 130), Kind: resize.Unknown, E: api.ErrMagic},
	}
	if !sameVolumes(list, want) {
		t.Errorf("%+v", list)
	}
	if !slices.Equal(free, extent.Set{at(1, 10), at(17, 74), at(76, 120), {From: 130 * 512, To: 200*512 + 7}}) {
		t.Error(free)
	}
	// with a byte of the volume that isn't right it isn't known, and nothing of it is free
	d[10*512+512+488]++
	list, free, e = plan.Free(parts.Mem(d))
	if want[0] = (plan.Volume{Ext: at(10, 76), E: api.ErrCount}); e != api.OK || !sameVolumes(list, want) {
		t.Errorf("%d %+v", e, list)
	}
	if !slices.Equal(free, extent.Set{at(1, 10), at(76, 120), {From: 130 * 512, To: 200*512 + 7}}) {
		t.Error(free)
	}
}

// freeFails: Free answers an error, and nothing else.
func freeFails(t *testing.T, what string, d api.Disk, want api.Errno) {
	t.Helper()
	if list, free, e := plan.Free(d); e != want || len(list) > 0 || len(free) > 0 {
		t.Errorf("%s: error %d, not %d; %v %v", what, e, want, list, free)
	}
}

// TestFreeErrors: no disk; no right table, of either kind.
func TestFreeErrors(t *testing.T) {
	freeFails(t, "no disk", nil, api.ErrNil)
	freeFails(t, "no view", (*image.View)(nil), api.ErrNil)
	freeFails(t, "nothing", bare(nil), api.ErrRange)
	freeFails(t, "noughts", bare(make([]byte, 4096)), api.ErrMagic)
	r := rand.New(rand.NewSource(1))
	g := anyGpt(r)
	for at, want := range map[int]api.Errno{510: api.ErrMagic, 446: api.ErrForm, 512: api.ErrMagic, 512 + 60: api.ErrSum, 899 * 512: api.ErrMagic, 3*512 + 1: api.ErrSum} {
		g.d[at] ^= 1
		freeFails(t, "a spoilt byte", bare(g.d), want)
		g.d[at] ^= 1
	}
	g.told(t)
	for _, c := range []struct {
		e    api.Errno
		list []mbr.Entry
	}{
		{api.ErrCross, []mbr.Entry{{Type: 7, First: 5, Count: 9}, {Type: 7, First: 13, Count: 9}}},
		{api.ErrRange, []mbr.Entry{{Type: 7, First: 5, Count: 96}}},
		{api.ErrTwice, []mbr.Entry{{Type: 5, First: 5, Count: 9}, {Type: 5, First: 23, Count: 9}}},
		{api.ErrLoop, []mbr.Entry{{Type: 5, First: 50, Count: 9}}},
	} {
		g := newGuest(100, 0, 3)
		g.sector(0, c.list...)
		g.sector(50, mbr.Entry{}, mbr.Entry{Type: 5, First: 0, Count: 9})
		freeFails(t, "a wrong entry", bare(g.d), c.e)
	}
	g = newGuest(100, 0, 3)
	g.sector(0)
	g.told(t) // no partition: all else is free
}

// TestFreeRefused: each read may be refused: of the tables, and of each partition; with
// another error a partition isn't known, and that is told.
func TestFreeRefused(t *testing.T) {
	r := rand.New(rand.NewSource(5))
	g := newGuest(700, 0, 5)
	g.fat(r, 10)
	g.ext(r, 200)
	g.strange(r, 500)
	g.sector(0, g.slots...)
	free := g.told(t)
	count := refusing(g.d, 0, api.ErrIO)
	_, _, e := plan.Free(count)
	ok(t, e)
	if count.reads < 15 {
		t.Fatal(count.reads)
	}
	for n := 1; n <= count.reads; n++ {
		freeFails(t, "refused", refusing(g.d, n, api.ErrIO), api.ErrIO)
		if n == 1 {
			freeFails(t, "the table's error", refusing(g.d, n, api.ErrState), api.ErrState)
			continue
		}
		list, got, e := plan.Free(refusing(g.d, n, api.ErrState))
		if e != api.OK || len(list) != 3 || !got.Within(free) {
			t.Error("another error, at read", n, e, list)
		}
	}
}

// TestFreeIsNew: lists that are answered are the caller's.
func TestFreeIsNew(t *testing.T) {
	r := rand.New(rand.NewSource(9))
	g := newGuest(700, 0, 5)
	g.fat(r, 10)
	g.ext(r, 200)
	g.sector(0, g.slots...)
	list, free, e := plan.Free(bare(g.d))
	ok(t, e)
	kept := slices.Clone(free)
	clear(list[0].Free)
	if !slices.Equal(list[1].Free, g.list[1].Free) || !slices.Equal(free, kept) {
		t.Error("two lists have one place")
	}
	clear(free)
	if !slices.Equal(list[1].Free, g.list[1].Free) {
		t.Error("two lists have one place")
	}
	g.told(t)
}
