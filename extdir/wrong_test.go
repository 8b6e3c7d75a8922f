package extdir_test

import (
	"bytes"
	"math/rand"
	"slices"
	"strconv"
	"strings"
	"testing"

	"fettle/api"
	"fettle/ext"
	"fettle/extdir"
)

// same: so many rows of one inode.
func same(n int, node int64) []entry { return slices.Repeat([]entry{{node, "x"}}, n) }

// TestPaths: as many paths as may be, and one more.
func TestPaths(t *testing.T) {
	for n, want := range map[int]api.Errno{4094: api.OK, 4095: api.OK, 4096: api.ErrBig, 4097: api.ErrBig} {
		w := small()
		w.root(same(n, w.file([]byte("y")))...)
		got := tree(t, "paths", w.disk())
		if got.e != want || want == api.OK && len(got.paths) != n+1 {
			t.Errorf("%d rows: error %d, %d paths", n, got.e, len(got.paths))
		}
	}
	for what, c := range map[string]struct {
		behind entry
		want   api.Errno
	}{
		"a folder":             {entry{12, "f"}, api.ErrBig},
		"the root":             {entry{2, "f"}, api.ErrBig},
		"no inode":             {entry{99, "f"}, api.ErrBig},
		"one that isn't used":  {entry{13, "f"}, api.ErrBig},
		"one of another kind":  {entry{3, "f"}, api.ErrBig},
		"a row of nothing":     {entry{0, "f"}, api.OK},
		"a dot":                {entry{2, "."}, api.OK},
		"a dot of no inode":    {entry{99, ".."}, api.OK},
		"an empty name":        {entry{11, ""}, api.ErrName},
		"an empty one, nobody": {entry{0, ""}, api.OK},
	} {
		w := small()
		x := w.file(nil)
		w.folder(w.give(), 2)
		w.root(append(same(4095, x), c.behind)...)
		fails(t, "behind all paths: "+what, w.disk(), c.want)
	}
	for n, want := range map[int]api.Errno{2000: api.OK, 2092: api.OK, 2093: api.ErrBig} {
		w := newWorld(300, 512, 16, 3)
		x := w.file(nil)
		f := w.folder(w.give(), 2, same(2000, x)...)
		w.root(slices.Concat(same(1, x), []entry{{f, "f"}}, same(n, x), same(1, x))...)
		fails(t, "in two folders", w.disk(), want)
		w = newWorld(300, 512, 16, 3)
		x = w.file(nil)
		f = w.folder(w.give(), 2, same(n, x)...)
		w.root(slices.Concat(same(2000, x), []entry{{f, "f"}}, same(2, x))...)
		fails(t, "in two folders, the second one more", w.disk(), want)
	}
	// paths of their own inodes
	w := newWorld(2000, 2048, 4160, 0)
	var list []entry
	for i := range 4095 {
		n := w.give()
		w.set(n, 0x8000, 0, 0, 1, [15]int64{})
		list = append(list, entry{n, strconv.Itoa(i)})
	}
	w.root(list...)
	if got := tree(t, "all their own", w.disk()); got.e != api.OK || len(got.paths) != 4096 || len(got.odd) != 0 {
		t.Error(got.e, len(got.paths))
	}
}

// wrong is a row that is wrong: with which error, and how what it names is made; no
// inode: its name is empty.
type wrong struct {
	e    api.Errno
	make func(w *world) int64
}

// entry: its row, on a volume.
func (x wrong) entry(w *world) entry {
	if n := x.make(w); n != 0 {
		return entry{n, "n"}
	}
	return entry{5, ""}
}

// inode: how an inode of a block is made.
func inode(mode, size, block int64) func(w *world) int64 {
	return func(w *world) int64 {
		n := w.give()
		w.set(n, mode, size, 2, 1, [15]int64{block})
		return n
	}
}

// known: how an inode is told that is there, or not.
func known(n int64) func(w *world) int64 {
	return func(*world) int64 { return n }
}

// oddFolder: a folder of a wrong size.
func oddFolder(w *world) int64 {
	n := w.folder(w.give(), 2)
	put32(w.inode(n), 4, 5)
	return n
}

// TestFirst: of two things that are wrong the one that is met first is told.
func TestFirst(t *testing.T) {
	all := []wrong{
		{api.ErrCount, inode(0x8000, 1<<31, 0)},
		{api.ErrRange, inode(0x8000, 5, 300)},
		{api.ErrForm, inode(0x8000, 5, 199)}, // it isn't used
		{api.ErrForm, inode(0x1000, 5, 300)}, // another kind
		{api.ErrCross, inode(0x8000, 5, 3)},  // it is fixed
		{api.ErrRange, known(99)},
		{api.ErrState, known(32)},
		{api.ErrName, known(0)},
		{api.ErrCount, oddFolder},
		{api.ErrLoop, known(2)},
	}
	long := entry{0, strings.Repeat("z", 250)} // so that rows are in another block
	for _, a := range all {
		for _, b := range all {
			want := a.e
			if b.e == api.ErrName {
				want = b.e // a block's rows are read ahead of what they name
			}
			w := small()
			fails(t, "a row, then one", w.root(a.entry(w), b.entry(w)).disk(), want)
			w = small()
			fails(t, "a row, then one in the next block", w.root(a.entry(w), long, long, long, long, b.entry(w)).disk(), a.e)
			w = small()
			f := w.folder(w.give(), 2, a.entry(w))
			fails(t, "a row in a folder, then one behind it", w.root(entry{f, "f"}, b.entry(w)).disk(), want)
			w = small()
			f = w.folder(w.give(), 2, a.entry(w))
			fails(t, "a row, then one in a folder", w.root(b.entry(w), entry{f, "f"}).disk(), b.e)
			w = small()
			w.root(a.entry(w))
			put32(w.inode(2), 4, 2048)
			fails(t, "a row, then noughts", w.disk(), a.e)
		}
	}
}

// TestFirstOfOne: of an inode that is wrong in more than one way.
func TestFirstOfOne(t *testing.T) {
	set := func(mode, size int64, at [15]int64) []byte {
		w := small()
		n := w.give()
		w.set(n, mode, size, 2, 1, at)
		w.mark(198, true)
		return w.root(entry{n, "x"}).disk()
	}
	fails(t, "its blocks, ahead of its size", set(0x8000, 1<<31, [15]int64{300}), api.ErrRange)
	fails(t, "its blocks, in order", set(0x8000, 1<<31, [15]int64{198, 199, 300}), api.ErrForm)
	fails(t, "its blocks, in order", set(0x8000, 1<<31, [15]int64{198, 300, 199}), api.ErrRange)
	fails(t, "its blocks, in order", set(0x8000, 1<<31, [15]int64{198, 0, 0, 3, 300, 199}), api.ErrCross)
	fails(t, "a folder's size, ahead of its blocks", set(0x4000, 1023, [15]int64{300}), api.ErrCount)
	fails(t, "a folder's blocks, ahead of its noughts", set(0x4000, 2048, [15]int64{0, 300}), api.ErrRange)
	fails(t, "a folder's noughts, ahead of its rows", set(0x4000, 2048, [15]int64{0, 198}), api.ErrForm)
	fails(t, "another kind, ahead of all else", set(0xC000, 1<<31, [15]int64{300}), api.ErrForm)
	// numbers in a block, ahead of those behind it
	w := small()
	n, inner := w.give(), w.takeClear()
	put32(w.at(inner), 4*255, 199)
	w.set(n, 0x8000, 5, 2, 1, [15]int64{12: inner, 13: 300})
	fails(t, "what a block of numbers names, then what is behind it", w.root(entry{n, "x"}).disk(), api.ErrForm)
	put32(w.at(inner), 4*255, 0)
	fails(t, "what is behind a block of numbers", w.disk(), api.ErrRange)
	put32(w.inode(n), 40+4*11, 199)
	fails(t, "what is ahead of it", w.disk(), api.ErrForm)
}

// TestFirstDeep: of folders that are too deep, and more.
func TestFirstDeep(t *testing.T) {
	count := inode(0x8000, 1<<31, 0)
	for what, c := range map[string]struct {
		make func(w *world) []entry
		want api.Errno
	}{
		"too deep, and a wrong size":   {func(w *world) []entry { return []entry{{oddFolder(w), "d"}} }, api.ErrDepth},
		"too deep, and not used":       {func(w *world) []entry { return []entry{{32, "d"}} }, api.ErrState},
		"a file may be there":          {func(w *world) []entry { return []entry{{w.file([]byte("x")), "d"}} }, api.OK},
		"a file ahead of one too deep": {func(w *world) []entry { return []entry{{count(w), "c"}, {oddFolder(w), "d"}} }, api.ErrCount},
		"one too deep ahead of a file": {func(w *world) []entry { return []entry{{oddFolder(w), "d"}, {count(w), "c"}} }, api.ErrDepth},
		"too many, and too deep":       {func(w *world) []entry { return append(same(4079, w.file(nil)), entry{oddFolder(w), "d"}) }, api.ErrBig},
		"not too many, but too deep":   {func(w *world) []entry { return append(same(4078, w.file(nil)), entry{oddFolder(w), "d"}) }, api.ErrDepth},
	} {
		w := small()
		nested(w, 16, c.make(w)...)
		fails(t, what, w.disk(), c.want)
	}
}

// TestOpen: a partition that is no volume: the error of the layer below.
func TestOpen(t *testing.T) {
	for _, d := range [][]byte{nil, make([]byte, 2047), make([]byte, 2048), pattern(9000, 1)} {
		if _, e := ext.Open(bare(d)); e == api.OK {
			t.Fatal("it is one")
		}
		tree(t, "no volume", d)
	}
	w := small()
	w.root(entry{99, "x"})
	d := w.disk()
	fails(t, "a row", d, api.ErrRange)
	put32(d, 1024+12, w.FreeBlocks+1)
	fails(t, "a count of free blocks, ahead of all paths", d, api.ErrCount)
	fails(t, "a partition that is cut", w.disk()[:1024*200-1], api.ErrRange)
}

func TestNoDisk(t *testing.T) {
	if paths, free, e := extdir.Tree(nil); e != api.ErrNil || len(paths) != 0 || len(free) != 0 {
		t.Error(paths, free, e)
	}
	if lost, e := extdir.Lost(nil); e != api.ErrNil || len(lost) != 0 {
		t.Error(lost, e)
	}
	if l, e := extdir.Odd(nil); e != api.ErrNil || len(l) != 0 {
		t.Error(l, e)
	}
}

// TestRefused: each read may be refused, or answer too few bytes, or too many.
func TestRefused(t *testing.T) {
	g, _ := anyGrown(7)
	d := g.disk()
	reads := func(call func(api.Disk) api.Errno) int {
		count := &odd{bare: d, answer: func(int, int64, int64) ([]byte, api.Errno, bool) { return nil, 0, false }}
		ok(t, call(count))
		return count.reads
	}
	calls := []func(d api.Disk) api.Errno{
		func(d api.Disk) api.Errno {
			paths, free, e := extdir.Tree(d)
			if e != api.OK && (len(paths) != 0 || len(free) != 0) {
				t.Error("Tree", paths, free, e)
			}
			return e
		},
		func(d api.Disk) api.Errno {
			lost, e := extdir.Lost(d)
			if e != api.OK && len(lost) != 0 {
				t.Error("Lost", lost, e)
			}
			return e
		},
		func(d api.Disk) api.Errno {
			l, e := extdir.Odd(d)
			if e != api.OK && len(l) != 0 {
				t.Error("Odd", l, e)
			}
			return e
		},
	}
	for i, call := range calls {
		all := reads(call)
		if all < 30 {
			t.Fatal(all)
		}
		for n := 1; n <= all; n++ {
			answers := func(want api.Errno, answer func(b []byte) ([]byte, api.Errno)) {
				disk := &odd{bare: d, answer: func(read int, at, size int64) ([]byte, api.Errno, bool) {
					b, e := answer(bytes.Clone(d[at : at+size]))
					return b, e, read == n
				}}
				if e := call(disk); e != want {
					t.Errorf("call %d, read %d: error %d, not %d", i, n, e, want)
				}
			}
			for _, e := range []api.Errno{api.ErrIO, api.ErrRange, api.ErrState} {
				answers(e, func(b []byte) ([]byte, api.Errno) { return b, e })
			}
			answers(api.ErrRange, func(b []byte) ([]byte, api.Errno) { return b[1:], api.OK })
			answers(api.ErrRange, func(b []byte) ([]byte, api.Errno) { return append(b, 0), api.OK })
			answers(api.ErrRange, func(b []byte) ([]byte, api.Errno) { return nil, api.OK })
		}
	}
}

// used: the numbers of blocks that are used, and the inodes that are.
func (w *world) used() (blocks, nodes []int64) {
	for n := int64(1); n < w.Blocks; n++ {
		if w.blocks[(n-1)/w.Per].Has((n - 1) % w.Per) {
			blocks = append(blocks, n)
		}
	}
	for n := int64(1); n <= w.Inodes; n++ {
		if w.nodes[(n-1)/w.Each].Has((n - 1) % w.Each) {
			nodes = append(nodes, n)
		}
	}
	return blocks, nodes
}

// change: something is another one: an inode's fields, a map's bit, a folder's byte.
func (w *world) change(r *rand.Rand, blocks, nodes, folders []int64) {
	n := nodes[r.Intn(len(nodes))]
	x := w.inode(n)
	switch r.Intn(9) {
	case 0:
		put16(x, 0, []int64{0x4000, 0x8000, 0xA000, 0, r.Int63n(65536)}[r.Intn(5)])
	case 1:
		put32(x, 4, []int64{0, 1, 59, 60, 1024, 2048, 5000, 1 << 20, 16777216, 16777217, 1 << 31}[r.Intn(11)])
	case 2, 3:
		at := []int{0, 0, 1, 2, 11, 12, 12, 13, 13, 14}[r.Intn(10)]
		put32(x, 40+4*at, []int64{0, 1, w.rows[0].Table, blocks[r.Intn(len(blocks))], blocks[r.Intn(len(blocks))], w.Blocks - 1, w.Blocks, w.left[r.Intn(len(w.left))]}[r.Intn(8)])
	case 4:
		put16(x, 26, r.Int63n(4))
		put32(x, 28, r.Int63n(2))
	case 5:
		w.nodes[(n-1)/w.Each].Set((n-1)%w.Each, false)
	case 6:
		b := blocks[r.Intn(len(blocks))]
		w.mark(b, slices.Contains([]int64{1, 2}, (b-1)%w.Per+1) || r.Intn(2) == 0)
	default:
		b := w.at(folders[r.Intn(len(folders))])
		at := 0
		for range r.Intn(5) { // to the beginning of a row
			if next := at + int(get16(b, at+4)); next+8 < len(b) {
				at = next
			}
		}
		switch r.Intn(4) {
		case 0:
			put32(b, at, []int64{0, 2, nodes[r.Intn(len(nodes))], w.Inodes, w.Inodes + 1}[r.Intn(5)])
		case 1:
			put16(b, at+4, []int64{0, 8, 12, 1024, get16(b, at+4) + 4, get16(b, at+4) - 4}[r.Intn(6)])
		case 2:
			b[at+6] = []byte{0, 1, 2, 255}[r.Intn(4)]
		default:
			b[at+r.Intn(min(16, len(b)-at))] ^= 1 << r.Intn(8)
		}
	}
}

// TestAnyChange: trees in which anything is changed.
func TestAnyChange(t *testing.T) {
	met := map[api.Errno]int{}
	for seed := range int64(30) {
		g, _ := anyGrown(3*seed + seed%3)
		before := g.disk()
		blocks, nodes := g.used()
		var folders []int64
		for _, p := range tree(t, "ahead", before).paths {
			for _, x := range p.Runs {
				if p.Kind == api.Folder {
					folders = append(folders, x.From/1024)
				}
			}
		}
		mapsOf := func(l []ext.Map) (c []ext.Map) {
			for _, m := range l {
				c = append(c, slices.Clone(m))
			}
			return c
		}
		oldBlocks, oldNodes := g.blocks, g.nodes
		for range 80 {
			copy(g.d, before)
			g.blocks, g.nodes = mapsOf(oldBlocks), mapsOf(oldNodes)
			for range 1 + g.r.Intn(3) {
				g.change(g.r, blocks, nodes, folders)
			}
			met[tree(t, "a change", g.disk()).e]++
		}
	}
	for e, least := range map[api.Errno]int{api.OK: 400, api.ErrCount: 40, api.ErrRange: 40, api.ErrForm: 200, api.ErrCross: 50, api.ErrName: 20, api.ErrLoop: 10, api.ErrState: 50} {
		if met[e] < least {
			t.Error("too few of error", e, met)
		}
	}
}

// TestEachByteOfAVolume: a small volume, with each byte of its own blocks and of its
// folders changed.
func TestEachByteOfAVolume(t *testing.T) {
	w := newWorld(40, 64, 16, 1)
	file := w.file(pattern(13*1024+5, 2))
	inner := w.folder(w.give(), 3, entry{w.file([]byte("x")), "x"}, entry{file, "again"})
	w.root(entry{inner, "f"}, entry{file, "a name"})
	d := w.disk()
	whole := tree(t, "ahead", d)
	ok(t, whole.e)
	data := map[int64]bool{}
	for _, p := range whole.paths {
		for _, x := range p.Runs {
			for at := x.From / 1024 * 1024; p.Kind == api.File && at < x.To; at++ {
				data[at] = true
			}
		}
	}
	for at := range d {
		block := int64(at / 1024)
		table := block >= w.rows[0].Table && block < w.rows[0].Table+2
		if block != 1 && !table && at%1024 > 100 && at%97 > 0 || data[int64(at)] && at%97 > 0 {
			continue // it says nothing, but for some
		}
		for _, by := range []byte{1, 0x90} {
			d[at] ^= by
			got := tree(t, "a byte", d)
			if data[int64(at)] && (got.e != api.OK || !samePaths(got.paths, whole.paths)) {
				t.Fatal("a file's byte at", at, got)
			}
			d[at] ^= by
		}
	}
}

// TestAnyBytes: any bytes where a volume's blocks and inodes are.
func TestAnyBytes(t *testing.T) {
	met := map[api.Errno]int{}
	r := rand.New(rand.NewSource(8))
	for seed := range int64(2500) {
		w := newWorld(60+r.Int63n(60), 64, 16, seed)
		if (w.Blocks-1)%64 < 10 && w.Blocks > 65 {
			continue
		}
		for range r.Intn(len(w.left)) {
			w.take()
		}
		blocks, _ := w.used()
		for n := int64(1); n <= w.Inodes; n++ {
			w.nodes[(n-1)/16].Set((n-1)%16, r.Intn(4) > 0)
			w.set(n, []int64{0x4000, 0x8000, 0x8000, 0xA000, 0x8000, 0}[r.Intn(6)], []int64{1024, 2048, 100, 0}[r.Intn(4)], r.Int63n(2), r.Int63n(4), [15]int64{})
			for i := range 3 {
				if r.Intn(2) == 0 {
					put32(w.inode(n), 40+4*[]int{0, 1, 12}[i], blocks[r.Intn(len(blocks))])
				}
			}
		}
		w.nodes[0].Set(1, true)
		w.root(entry{r.Int63n(w.Inodes + 2), "a"}, entry{r.Int63n(w.Inodes + 2), "b"})
		for _, n := range blocks { // any block may be one of numbers, or a folder's
			if slices.ContainsFunc(w.rows, func(x ext.Row) bool { return n == x.Blocks || n == x.Inodes || n >= x.Table && n < x.Table+2 }) || n == get32(w.inode(2), 40) {
				continue
			}
			copy(w.at(n), make([]byte, 1024))
			if r.Intn(2) == 0 {
				put32(w.at(n), 4*r.Intn(256), blocks[r.Intn(len(blocks))])
			} else {
				copy(w.at(n), packed(entry{r.Int63n(w.Inodes + 1), "c"}, entry{2, ".."}, entry{r.Int63n(w.Inodes + 1), "d"}))
			}
		}
		met[tree(t, "any bytes", w.disk()).e]++
	}
	if met[api.OK] < 100 || len(met) < 7 {
		t.Error("too few of a kind:", met)
	}
}
