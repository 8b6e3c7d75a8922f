package rawguest_test

import (
	"bytes"
	"math/rand"
	"strconv"
	"strings"
	"testing"

	"fettle/api"
	"fettle/extdir"
	"fettle/extent"
	"fettle/fatdir"
	"fettle/parts"
	"fettle/rawguest"
)

func pattern(n int, seed int64) []byte {
	b := make([]byte, n)
	rand.New(rand.NewSource(seed)).Read(b)
	return b
}

// tree: what the volumes of these tests hold.
func tree() []rawguest.File {
	holes := pattern(15*1024+7, 4)
	clear(holes[1024 : 5*1024])
	clear(holes[13*1024 : 14*1024])
	var many []rawguest.File
	for i := range 60 {
		many = append(many, rawguest.File{Name: "M" + strconv.Itoa(i), Data: pattern(i, int64(i))})
	}
	return []rawguest.File{
		{Name: "A.TXT", Data: pattern(1500, 1)},
		{Name: "EMPTY"},
		{Name: "F", Folder: true, Inside: []rawguest.File{{Name: "IN.B", Data: pattern(512, 2)}, {Name: "NONE", Folder: true}, {Name: "HOLES", Data: holes}}},
		{Name: "MANY", Folder: true, Inside: many},
		{Name: "B.TXT", Data: pattern(4096, 3)},
	}
}

// told: a layer's tree tells just these files, and each has its bytes; how many bytes
// are free.
func told(t *testing.T, what string, d []byte, tree func(api.Disk) ([]api.Path, extent.Set, api.Errno), files []rawguest.File) int64 {
	t.Helper()
	paths, free, e := tree(parts.Mem(d))
	want := rawguest.Paths(files...)
	if e != api.OK || len(paths) != len(want) {
		t.Fatalf("%s: error %d, %d paths, not %d", what, e, len(paths), len(want))
	}
	for i, w := range want {
		p := paths[i]
		if p.Name != w.Name || (p.Kind == api.Folder) != w.Folder {
			t.Fatalf("%s: %+v, not %s", what, p, w.Name)
		}
		if b, e := parts.Content(parts.Mem(d), p); !w.Folder && (e != api.OK || !bytes.Equal(b, w.Data)) {
			t.Fatalf("%s: %s: error %d, or other bytes", what, w.Name, e)
		}
	}
	return free.Bytes()
}

func TestFat(t *testing.T) {
	for seed := range int64(12) {
		r := rand.New(rand.NewSource(seed))
		shape := rawguest.Fat{Each: 1 << (seed % 4), Ahead: 3 + seed, Tables: 1 + seed%2, Long: 10, Sectors: 1200 + seed, Info: 2, Copy: seed % 2, Vague: seed%3 == 0, Next: seed}
		f := rawguest.NewFat(shape, pattern(1230*512, seed))
		r.Shuffle(len(f.Left), func(i, j int) { f.Left[i], f.Left[j] = f.Left[j], f.Left[i] })
		f.Hold(tree()...)
		f.Take(3)
		if free := told(t, "fat", f.Bytes(), fatdir.Tree, tree()); free != 512*shape.Each*f.Free() || f.Free() != int64(len(f.Left)) {
			t.Error(seed, free, f.Free())
		}
		if lost, e := fatdir.Lost(parts.Mem(f.Bytes())); e != api.OK || len(lost) != 3 {
			t.Error(seed, lost, e)
		}
	}
}

func TestExt(t *testing.T) {
	for seed := range int64(12) {
		r := rand.New(rand.NewSource(seed))
		shape := rawguest.Ext{Blocks: 1 + 4*(64+8*seed) + 17 + 2*seed, Per: 64 + 8*seed, Each: 104, First: 11, Types: seed%2 == 0}
		x := rawguest.NewExt(shape, pattern(int(1024*shape.Blocks)+700, seed), func(room int64) int64 { return r.Int63n(room + 1) })
		r.Shuffle(len(x.Left), func(i, j int) { x.Left[i], x.Left[j] = x.Left[j], x.Left[i] })
		r.Shuffle(len(x.Spare), func(i, j int) { x.Spare[i], x.Spare[j] = x.Spare[j], x.Spare[i] })
		x.Hold(tree()...)
		if free := told(t, "ext", x.Bytes(), extdir.Tree, tree()); free != 1024*int64(len(x.Left)) {
			t.Error(seed, free)
		}
		lost, e := extdir.Lost(parts.Mem(x.Bytes()))
		odd, e2 := extdir.Odd(parts.Mem(x.Bytes()))
		if e != api.OK || e2 != api.OK || len(lost) != 0 || len(odd) != 0 {
			t.Error(seed, lost, e, odd, e2)
		}
		x.Take()
		if lost, e := extdir.Lost(parts.Mem(x.Bytes())); e != api.OK || len(lost) != 1 {
			t.Error(seed, lost, e)
		}
	}
}

// A file whose blocks need two levels of blocks of numbers.
func TestExtLong(t *testing.T) {
	x := rawguest.NewExt(rawguest.Ext{Blocks: 600, Per: 1024, Each: 16, First: 11}, make([]byte, 600*1024), func(int64) int64 { return 0 })
	files := []rawguest.File{{Name: strings.Repeat("long", 50), Data: pattern(300*1024, 1)}, {Name: "x", Data: pattern(5, 1)}}
	told(t, "ext", x.Hold(files...).Bytes(), extdir.Tree, files)
}
