package extdir_test

import (
	"bytes"
	"math/rand"
	"slices"
	"strconv"
	"strings"
	"testing"

	"fettle/api"
	"fettle/ext"
	"fettle/extdir"
	"fettle/extent"
)

func TestMade(t *testing.T) {
	for _, c := range [][3]int64{{128, 128, 16}, {9, 64, 16}, {65, 64, 464}, {73, 64, 16}, {1 + 32*64, 64, 24}, {16384, 8192, 8192}} {
		d, e := ext.Make(c[0], c[1], c[2])
		ok(t, e)
		got := tree(t, "a volume that was made", d)
		v, _ := ext.Open(bare(d))
		if got.e != api.OK || len(got.paths) != 1 || len(got.lost) != 0 || len(got.odd) != 0 || got.free.Bytes() != 1024*v.FreeBlocks {
			t.Error(c, got.e, got.paths, got.lost, got.odd)
		}
		at := 1024 * (5 + c[2]/8)
		if p := got.paths[0]; p.Name != "" || p.Kind != api.Folder || p.Size != 1024 || !slices.Equal(p.Runs, []api.Ext{{From: at, To: at + 1024}}) {
			t.Error(c, p)
		}
	}
}

// TestByHand: a volume, and what is told of it, written out.
func TestByHand(t *testing.T) {
	w := small()                                                               // blocks from 9 on, inodes from 11 on
	file := w.file(pattern(1500, 1))                                           // 11: 9, 10
	inner := w.give()                                                          // 12
	hollow := w.give()                                                         // 13
	link := w.give()                                                           // 14
	far := w.give()                                                            // 15
	none := w.give()                                                           // 16
	w.give()                                                                   // 17: no row names it
	w.take()                                                                   // 11: nobody has it
	w.folder(inner, 2, entry{inner, "."}, entry{2, ".."}, entry{hollow, "in"}) // 12
	w.set(hollow, 0x81A4, 4*1024+5, 0, 1, [15]int64{0, 0, w.take(), w.take()}) // 13, 14
	w.set(link, 0xA1FF, 59, 0, 1, [15]int64{1 << 31, 3, 1 << 31})
	w.set(far, 0xA1FF, 60, 2, 1, [15]int64{w.take()}) // 15
	w.set(none, 0x81A4, 0, 0, 3, [15]int64{})
	w.set(17, 0, 0, 0, 5, [15]int64{})
	w.root(entry{file, "a"}, entry{inner, "f"}, entry{0, "gone"}, entry{link, "near"}, entry{far, "far"}, entry{none, "none"}, entry{file, "b"}, entry{none, "none again"}) // 16
	d := w.disk()
	got := tree(t, "by hand", d)
	ok(t, got.e)
	at := func(from, to int64) api.Ext { return api.Ext{From: 1024 * from, To: 1024 * to} }
	want := []api.Path{
		{Name: "", Kind: api.Folder, Size: 1024, Runs: []api.Ext{at(16, 17)}},
		{Name: "/a", Kind: api.File, Size: 1500, Runs: []api.Ext{{From: 9 * 1024, To: 9*1024 + 1500}}},
		{Name: "/f", Kind: api.Folder, Size: 1024, Runs: []api.Ext{at(12, 13)}},
		{Name: "/f/in", Kind: api.File, Size: 4*1024 + 5, Runs: []api.Ext{{From: -2048}, at(13, 15), {From: -5}}},
		{Name: "/near", Kind: api.File},
		{Name: "/far", Kind: api.File, Size: 60, Runs: []api.Ext{{From: 15 * 1024, To: 15*1024 + 60}}},
		{Name: "/none", Kind: api.File},
		{Name: "/b", Kind: api.File, Size: 1500, Runs: []api.Ext{{From: 9 * 1024, To: 9*1024 + 1500}}},
		{Name: "/none again", Kind: api.File},
	}
	if !samePaths(got.paths, want) {
		t.Errorf("%v\nnot\n%v", got.paths, want)
	}
	if !slices.Equal(got.free, extent.Set{at(17, 200)}) || !slices.Equal(got.lost, []int64{11}) {
		t.Error(got.free, got.lost)
	}
	// the root's "." and ".." and the folder's ".."; two rows of a file that says one, of one that says three; none of 17
	if !slices.Equal(got.odd, []extdir.Links{{Node: 2, Rows: 3, Said: 2}, {Node: 11, Rows: 2, Said: 1}, {Node: 16, Rows: 2, Said: 3}, {Node: 17, Rows: 0, Said: 5}}) {
		t.Error(got.odd)
	}
}

// grown is a tree that is made by hand: its paths in order, and what each holds.
type grown struct {
	*world
	r     *rand.Rand
	names []string
	kinds []int
	bytes [][]byte
	links map[int64]int64 // rows of each inode
	files map[int64][]byte
}

// note: a path.
func (g *grown) note(name string, kind int, b []byte) {
	g.names, g.kinds, g.bytes = append(g.names, name), append(g.kinds, kind), append(g.bytes, b)
}

// data: any bytes, with holes in them, or without.
func (g *grown) data() []byte {
	b := pattern([]int{0, 1, 700, 1024, 1025, 5000, 12 * 1024, 12*1024 + 1, 20000}[g.r.Intn(9)], g.r.Int63())
	for at := 0; at < len(b) && g.r.Intn(3) > 0; at += 1024 * (1 + g.r.Intn(4)) {
		clear(b[at:min(at+1024, len(b))])
	}
	return b
}

// item: an inode of a file or a link, and its bytes: a new one, or one that is there.
func (g *grown) item() (int64, []byte) {
	if len(g.files) > 0 && g.r.Intn(6) == 0 {
		l := make([]int64, 0, len(g.files))
		for n := range g.files {
			l = append(l, n)
		}
		n := slices.Min(l)
		return n, g.files[n]
	}
	n, data := g.give(), g.data()
	switch g.r.Intn(5) {
	case 0: // a link that stands in its inode
		data = nil
		g.set(n, 0xA1FF, g.r.Int63n(60), 0, 0, [15]int64{g.r.Int63n(1 << 32), 5, 3})
	case 1:
		g.set(n, 0xA000+g.r.Int63n(4096), int64(len(data)), 8, 0, g.numbers(g.fill(data, true)))
	default:
		g.set(n, 0x8000+g.r.Int63n(4096), int64(len(data)), g.r.Int63n(9), 0, g.numbers(g.fill(data, g.r.Intn(2) == 0)))
	}
	g.files[n] = data
	return n, data
}

// grow: an inode is a folder, and all that is in it is made, and noted.
func (g *grown) grow(n, above int64, name string, depth int) {
	me := len(g.names)
	g.note(name, api.Folder, nil)
	list := []entry{{n, "."}, {above, ".."}}
	for i := range g.r.Intn(8) {
		x := entry{0, "n" + strconv.Itoa(i) + strings.Repeat("x", g.r.Intn(200))}
		switch g.r.Intn(4) {
		case 0:
		case 1:
			if depth == 5 {
				continue
			}
			x.node = g.give()
			g.grow(x.node, n, name+"/"+x.name, depth+1)
		default:
			var data []byte
			x.node, data = g.item()
			g.note(name+"/"+x.name, api.File, data)
		}
		list = append(list, x)
	}
	for _, x := range list {
		g.links[x.node]++
	}
	g.folder(n, 0, list...)
	g.bytes[me] = packed(list...)
}

// anyGrown: a tree on a volume of one group, or some; some inodes say a wrong count of
// rows, some blocks are nobody's.
func anyGrown(seed int64) (*grown, []extdir.Links) {
	per := []int64{2048, 1024, 512}[seed%3]
	g := &grown{world: newWorld(1500, per, 136, seed+1), r: rand.New(rand.NewSource(seed)), links: map[int64]int64{}, files: map[int64][]byte{}}
	g.grow(2, 2, "", 0)
	var wrong []extdir.Links
	for n := int64(1); n <= g.Inodes; n++ {
		if !g.nodes[(n-1)/g.Each].Has((n-1)%g.Each) || n < 11 && n != 2 {
			continue
		}
		said := g.links[n]
		if g.r.Intn(5) == 0 {
			said = g.r.Int63n(5)
		}
		put16(g.inode(n), 26, said)
		if said != g.links[n] {
			wrong = append(wrong, extdir.Links{Node: n, Rows: g.links[n], Said: said})
		}
	}
	return g, wrong
}

// TestTrees: any trees: each path, in order, with its bytes where they stand.
func TestTrees(t *testing.T) {
	deep, many, wrong := 0, 0, 0
	for seed := range int64(100) {
		g, links := anyGrown(seed)
		var lost []int64
		for range seed % 4 {
			lost = append(lost, g.take())
		}
		slices.Sort(lost)
		d := g.disk()
		got := tree(t, "a tree", d)
		ok(t, got.e)
		if len(got.paths) != len(g.names) || !slices.Equal(got.lost, lost) || !slices.Equal(got.odd, links) {
			t.Fatal(seed, len(got.paths), len(g.names), got.lost, lost, got.odd, links)
		}
		for i, p := range got.paths {
			if p.Name != g.names[i] || p.Kind != g.kinds[i] || !bytes.Equal(content(d, p), g.bytes[i]) {
				t.Fatal(seed, p, g.names[i])
			}
			deep = max(deep, strings.Count(p.Name, "/"))
		}
		many, wrong = max(many, len(got.paths)), wrong+len(links)
	}
	if deep < 5 || many < 60 || wrong < 100 {
		t.Error("the trees are small:", deep, many, wrong)
	}
}

// TestNewMemory: what is answered is nobody else's.
func TestNewMemory(t *testing.T) {
	g, _ := anyGrown(7)
	d := g.disk()
	want := tree(t, "ahead", d)
	paths, free, _ := extdir.Tree(bare(d))
	lost, _ := extdir.Lost(bare(d))
	links, _ := extdir.Odd(bare(d))
	for i := range paths {
		runs := paths[i].Runs[:cap(paths[i].Runs)]
		for k := range runs {
			runs[k] = api.Ext{From: int64(i), To: int64(k)}
		}
	}
	for i, p := range paths {
		for k, x := range p.Runs {
			if x != (api.Ext{From: int64(i), To: int64(k)}) {
				t.Fatal("two lists share their memory")
			}
		}
	}
	clear(paths)
	clear(free)
	clear(lost)
	clear(links)
	if again := tree(t, "again", d); !samePaths(again.paths, want.paths) || !slices.Equal(again.free, want.free) || !slices.Equal(again.lost, want.lost) || !slices.Equal(again.odd, want.odd) {
		t.Error("another answer")
	}
	paths, free, _ = extdir.Tree(bare(d))
	clear(d)
	if !samePaths(paths, want.paths) || !slices.Equal(free, want.free) {
		t.Error("the answer hangs on the disk")
	}
}

// nested: folders in one another, so many below the root; the last one holds these
// rows. Its rows' names are told by their depth.
func nested(w *world, depth int, last ...entry) {
	for n := depth; n > 0; n-- {
		last = []entry{{w.folder(w.give(), 2, last...), strconv.Itoa(n)}}
	}
	w.root(last...)
}

func TestDepth(t *testing.T) {
	for depth := range 20 {
		w := newWorld(200, 128, 32, int64(depth))
		nested(w, depth, entry{w.file(nil), "X"})
		got := tree(t, "folders in one another", w.disk())
		if depth > 16 {
			if got.e != api.ErrDepth {
				t.Errorf("%d deep: error %d", depth, got.e)
			}
			continue
		}
		if got.e != api.OK || len(got.paths) != depth+2 {
			t.Fatalf("%d deep: error %d, %v", depth, got.e, got.paths)
		}
		name := ""
		for n, p := range got.paths[:depth+1] {
			if n > 0 {
				name += "/" + strconv.Itoa(n)
			}
			if p.Name != name || p.Kind != api.Folder {
				t.Error(depth, p, name)
			}
		}
		if p := got.paths[depth+1]; p.Name != name+"/X" || p.Kind != api.File {
			t.Error(depth, p)
		}
	}
}

// TestSides: many folders that aren't in one another are not deep.
func TestSides(t *testing.T) {
	w := newWorld(200, 256, 128, 5)
	var all []entry
	for n := range 20 {
		inner := w.folder(w.give(), 2, entry{w.file([]byte("x")), "X"})
		all = append(all, entry{w.folder(w.give(), 2, entry{inner, "IN"}), strconv.Itoa(n)})
	}
	if got := tree(t, "side by side", w.root(all...).disk()); got.e != api.OK || len(got.paths) != 61 {
		t.Error(got.e, len(got.paths))
	}
}

// TestLoop: folders that are met again.
func TestLoop(t *testing.T) {
	build := func(rows func(w *world, a, b int64) []entry) *world {
		w := small()
		a, b := w.give(), w.give()
		w.folder(a, 2, rows(w, a, b)...)
		w.folder(b, 2, entry{b, "."}, entry{a, ".."})
		return w
	}
	nothing := func(w *world, a, b int64) []entry { return nil }
	fails(t, "the root in itself", small().root(entry{2, "r"}).disk(), api.ErrLoop)
	w := build(nothing)
	fails(t, "two rows of a folder", w.root(entry{11, "a"}, entry{12, "b"}, entry{11, "again"}).disk(), api.ErrLoop)
	w = build(nothing)
	fails(t, "two rows of a folder, one behind the other", w.root(entry{11, "a"}, entry{11, "a"}).disk(), api.ErrLoop)
	w = build(func(w *world, a, b int64) []entry { return []entry{{a, "a"}} })
	fails(t, "a folder in itself", w.root(entry{11, "a"}).disk(), api.ErrLoop)
	w = build(func(w *world, a, b int64) []entry { return []entry{{2, "up"}} })
	fails(t, "the root in a folder", w.root(entry{11, "a"}).disk(), api.ErrLoop)
	w = build(func(w *world, a, b int64) []entry { return []entry{{b, "b"}} })
	fails(t, "a folder in two", w.root(entry{12, "b"}, entry{11, "a"}).disk(), api.ErrLoop)
	w = build(func(w *world, a, b int64) []entry { return []entry{{b, "b"}} })
	fails(t, "a folder in another", w.root(entry{11, "a"}).disk(), api.OK)
	w = build(func(w *world, a, b int64) []entry { return []entry{{2, "."}, {b, ".."}} })
	fails(t, "dots that name others", w.root(entry{11, "a"}, entry{12, "b"}).disk(), api.OK)
	w = small()
	nested(w, 16, entry{2, "r"})
	fails(t, "too deep, and met", w.disk(), api.ErrDepth)
	w = small()
	nested(w, 15, entry{2, "r"})
	fails(t, "not too deep, but met", w.disk(), api.ErrLoop)
	w = small()
	put32(w.root(entry{2, "r"}).inode(2), 4, 2048+512)
	fails(t, "a size ahead of what is in it", w.disk(), api.ErrCount)
}

// TestFolderSize: whole blocks, at least one, and no more than a guest's disk has.
func TestFolderSize(t *testing.T) {
	for _, size := range []int64{0, 1, 512, 1023, 1025, 2047, 2049, 16777216 - 1, 16777216 + 1, 16777216 + 1024, 1<<32 - 1024, 1 << 31} {
		w := small().root()
		put32(w.inode(2), 4, size)
		fails(t, "a size", w.disk(), api.ErrCount)
		w = small()
		n := w.folder(w.give(), 2)
		put32(w.inode(n), 4, size)
		put32(w.inode(n), 40, 1<<30)
		fails(t, "a size, ahead of its blocks", w.root(entry{n, "f"}).disk(), api.ErrCount)
	}
	for _, size := range []int64{2048, 4096, 12 * 1024, 13 * 1024, 269 * 1024, 16777216 - 1024, 16777216} {
		w := small().root()
		put32(w.inode(2), 4, size)
		fails(t, "noughts", w.disk(), api.ErrForm)
	}
	w := small()
	n := w.give()
	w.set(n, 0x41ED, 1024, 2, 2, [15]int64{0, w.take()})
	fails(t, "noughts first", w.root(entry{n, "f"}).disk(), api.ErrForm)
	w = small()
	n = w.folder(w.give(), 2, entry{2, ".."})
	put32(w.inode(n), 48, w.take()) // noughts, and a block, behind its size
	got := tree(t, "more blocks than its size says", w.root(entry{n, "f"}).disk())
	if got.e != api.OK || len(got.paths) != 2 || got.paths[1].Size != 1024 || len(got.paths[1].Runs) != 1 || len(got.lost) != 0 {
		t.Error(got)
	}
}

// TestFolderBlocks: a folder of many blocks, behind one block of numbers and two; rows
// in each, and those behind its size aren't read.
func TestFolderBlocks(t *testing.T) {
	for _, count := range []int64{1, 2, 12, 13, 268, 269, 300} {
		for _, seed := range []int64{0, 3} {
			w := newWorld(800, 1024, 16, seed)
			x := w.file([]byte("x"))
			var list []entry
			for i := range count {
				list = append(list, entry{x, "n" + strconv.Itoa(int(i)) + strings.Repeat("y", 248-len(strconv.Itoa(int(i))))}, entry{0, strings.Repeat("z", 240)}, entry{0, strings.Repeat("z", 240)}, entry{0, strings.Repeat("z", 200)})
			}
			n := w.folder(w.give(), 2, list...)
			if said := get32(w.inode(n), 4); said != 1024*count {
				t.Fatal(said)
			}
			w.root(entry{n, "f"}, entry{x, "x"})
			got := tree(t, "a folder of many blocks", w.disk())
			if got.e != api.OK || int64(len(got.paths)) != 3+count || got.paths[1].Size != 1024*count || len(got.lost) != 0 {
				t.Fatal(count, got.e, len(got.paths), got.lost)
			}
			for i, p := range got.paths[2 : 2+count] {
				if !strings.HasPrefix(p.Name, "/f/n"+strconv.Itoa(i)+"y") {
					t.Error(i, p)
				}
			}
			put32(w.inode(n), 4, 1024*max(count-1, 1))
			if got := tree(t, "a size of one block fewer", w.disk()); got.e != api.OK || int64(len(got.paths)) != 3+max(count-1, 1) || len(got.lost) != 0 {
				t.Error(count, got.e, len(got.paths))
			}
		}
	}
}

func TestRoot(t *testing.T) {
	for kind := range int64(16) {
		w := small().root()
		put16(w.inode(2), 0, kind<<12|0x1ED)
		want := api.ErrForm
		if kind == 4 {
			want = api.OK
		}
		fails(t, "the root's kind", w.disk(), want)
	}
	w := small().root()
	w.nodes[0].Set(1, false)
	fails(t, "the root isn't used", w.disk(), api.ErrState)
	w = small().root()
	put16(w.inode(2), 0, 0x8000)
	put32(w.inode(2), 4, 7)
	fails(t, "no folder, and a wrong size", w.disk(), api.ErrForm)
}

// TestKinds: what a row names is a folder, a file or a link; of which inode ever.
func TestKinds(t *testing.T) {
	for kind := range int64(16) {
		for _, rest := range []int64{0, 0xFFF, 0x1A4} {
			w := small()
			n := w.file([]byte("abc"))
			put16(w.inode(n), 0, kind<<12|rest)
			put32(w.inode(n), 28, 2)
			d := w.root(entry{n, "x"}).disk()
			switch kind {
			case 4:
				fails(t, "a folder, of a wrong size", d, api.ErrCount)
			case 8, 10:
				if got := tree(t, "a file", d); got.e != api.OK || len(got.paths) != 2 || got.paths[1].Kind != api.File || got.paths[1].Size != 3 {
					t.Error(kind, got)
				}
			default:
				put32(w.inode(n), 4, 1<<31)
				put32(w.inode(n), 40, 1<<31)
				fails(t, "another kind", w.disk(), api.ErrForm)
			}
		}
	}
	for n, want := range map[int64]api.Errno{1: api.OK, 5: api.OK, 10: api.OK, 11: api.OK, 12: api.ErrState, 32: api.ErrState, 33: api.ErrRange, 1 << 31: api.ErrRange, 1<<32 - 1: api.ErrRange} {
		w := small()
		w.give()
		if n < 12 {
			w.set(n, 0x8000, 0, 0, 1, [15]int64{})
		}
		fails(t, "an inode's number", w.root(entry{n, "x"}).disk(), want)
	}
}

// TestLinks: a link that stands in its inode has no blocks, and no size.
func TestLinks(t *testing.T) {
	for _, c := range []struct {
		mode, size, count int64
		inside            bool
	}{
		{0xA1FF, 0, 0, true}, {0xA1FF, 1, 0, true}, {0xA1FF, 59, 0, true}, {0xA1FF, 60, 0, false}, {0xA1FF, 61, 0, false}, {0xA1FF, 1 << 31, 0, false},
		{0xA1FF, 0, 1, false}, {0xA1FF, 59, 1, false}, {0xA1FF, 59, 2, false}, {0xA1FF, 59, 1 << 31, false}, {0x81FF, 59, 0, false}, {0x81FF, 0, 0, false}, {0xA000, 59, 0, true},
	} {
		w := small()
		n := w.give()
		w.set(n, c.mode, c.size, c.count, 1, [15]int64{1 << 31})
		w.root(entry{n, "x"}, entry{n, "y"})
		got := tree(t, "numbers that are no blocks", w.disk())
		if c.inside && (got.e != api.OK || len(got.paths) != 3 || got.paths[1].Kind != api.File || got.paths[1].Size != 0 || len(got.paths[1].Runs) != 0) || !c.inside && got.e != api.ErrRange {
			t.Errorf("%+v: %+v", c, got)
		}
		w = small()
		n, data := w.give(), pattern(1024, 2)
		w.set(n, c.mode, c.size, c.count, 1, w.numbers(w.fill(data, false)))
		d := w.root(entry{n, "x"}).disk()
		got = tree(t, "numbers that are blocks", d)
		switch {
		case c.size > 1<<30:
			if got.e != api.ErrCount {
				t.Errorf("%+v: %d", c, got.e)
			}
		case c.inside != slices.Equal(got.lost, []int64{9}):
			t.Errorf("%+v: %v", c, got.lost)
		case !c.inside && !bytes.Equal(content(d, got.paths[1]), data[:c.size]):
			t.Errorf("%+v: %v", c, got.paths)
		}
	}
}

// TestRowsOfOne: more rows may name a file, in one folder or in more.
func TestRowsOfOne(t *testing.T) {
	w := small()
	data := pattern(30000, 3)
	a := w.file(data)
	link := w.give()
	w.set(link, 0xA1FF, 100, 2, 2, w.numbers(w.fill(data[:100], false)))
	f := w.folder(w.give(), 2, entry{a, "a"}, entry{link, "l"})
	d := w.root(entry{a, "1"}, entry{a, "2"}, entry{f, "f"}, entry{link, "l"}, entry{a, "1"}).disk()
	got := tree(t, "rows of one", d)
	ok(t, got.e)
	if len(got.paths) != 8 || len(got.lost) != 0 {
		t.Fatal(got)
	}
	for i, p := range got.paths {
		want := data
		switch i {
		case 0, 3:
			continue
		case 5, 6:
			want = data[:100]
		}
		if !bytes.Equal(content(d, p), want) {
			t.Error(p)
		}
	}
	if !slices.Equal(got.odd, []extdir.Links{{Node: 11, Rows: 4, Said: 1}, {Node: 13, Rows: 1, Said: 2}}) {
		t.Error(got.odd)
	}
}
