package extdir_test

import (
	"bytes"
	"math/rand"
	"slices"
	"testing"

	"fettle/api"
	"fettle/extdir"
)

// maxNoughts is how many blocks of noughts are told of an inode.
const maxNoughts = 16384

// TestFileBlocks: files of so many blocks, behind the twelve one, two blocks of
// numbers and more; all their bytes, and no block is lost.
func TestFileBlocks(t *testing.T) {
	for _, count := range []int{0, 1, 2, 11, 12, 13, 14, 267, 268, 269, 270, 523, 524, 525, 800} {
		for _, seed := range []int64{0, 1, 2} {
			w := newWorld(1000, 512, 16, seed)
			data := pattern(1024*count, seed)
			n := w.file(data)
			d := w.root(entry{n, "x"}).disk()
			got := tree(t, "a file", d)
			ok(t, got.e)
			if !bytes.Equal(content(d, got.paths[1]), data) || len(got.lost) != 0 {
				t.Fatal(count, seed, got.paths[1], got.lost)
			}
			if seed == 0 && count < 12 && count > 0 && len(got.paths[1].Runs) != 1 {
				t.Error("blocks one behind the other are more runs", got.paths[1])
			}
			for _, cut := range []int{1, 1023, 1024, 1025} {
				if cut > len(data) {
					continue
				}
				put32(w.inode(n), 4, int64(len(data)-cut))
				d := w.disk()
				got := tree(t, "a file, cut", d)
				if got.e != api.OK || !bytes.Equal(content(d, got.paths[1]), data[:len(data)-cut]) || len(got.lost) != 0 {
					t.Fatal(count, seed, got.e, got.lost)
				}
			}
		}
	}
}

// TestHoles: noughts among the twelve, behind one block of numbers and two.
func TestHoles(t *testing.T) {
	r := rand.New(rand.NewSource(2))
	for i := range 60 {
		w := newWorld(1000, 512, 16, int64(i))
		data := make([]byte, 1024*(1+r.Intn([]int{3, 14, 400, 2000, 16384}[r.Intn(5)])))
		for range r.Intn(20) {
			copy(data[1024*r.Intn(len(data)/1024):], pattern(1024, r.Int63()))
		}
		size := len(data) - r.Intn(1024)
		clear(data[size:])
		n := w.give()
		w.set(n, 0x8000, int64(size), 0, 1, w.numbers(w.fill(data, true)))
		d := w.root(entry{n, "x"}).disk()
		got := tree(t, "holes", d)
		ok(t, got.e)
		if !bytes.Equal(content(d, got.paths[1]), data[:size]) || len(got.lost) != 0 {
			t.Fatal(i, got.paths[1], got.lost)
		}
	}
}

// TestNoughtsAtOnce: a number 0 behind the twelve is as many noughts as it would name.
func TestNoughtsAtOnce(t *testing.T) {
	w := small()
	a, b, inner := w.take(), w.take(), w.take()
	clear(w.at(inner))
	put32(w.at(inner), 4*3, b)
	second := w.take()
	clear(w.at(second))
	put32(w.at(second), 4*2, inner)
	n := w.give()
	w.set(n, 0x8000, 0, 0, 1, [15]int64{5: a, 13: second})
	w.root(entry{n, "x"})
	// five noughts, a block, six and 256 and twice 256 and three, a block, and the rest
	place := int64(12 + 256 + 2*256 + 3)
	for _, size := range []int64{0, 5*1024 - 1, 5 * 1024, 5*1024 + 1, 6 * 1024, 6*1024 + 1, place * 1024, place*1024 + 1, place*1024 + 1024, place*1024 + 1025, 16777216} {
		put32(w.inode(n), 4, size)
		got := tree(t, "a size", w.disk())
		ok(t, got.e)
		want := []api.Ext{{From: -5 * 1024}, {From: 1024 * a, To: 1024*a + 1024}, {From: -(place - 6) * 1024}, {From: 1024 * b, To: 1024*b + 1024}, {From: -16777216 + 1024*(place+1)}}
		left := size
		for i, x := range want {
			long := min(x.To-x.From, left)
			if left -= long; long == 0 {
				want = want[:i]
				break
			}
			if want[i].To = x.From + long; x.From < 0 {
				want[i] = api.Ext{From: -long}
			}
		}
		if !slices.Equal(got.paths[1].Runs, want) || len(got.lost) != 0 {
			t.Errorf("size %d: %v, not %v", size, got.paths[1].Runs, want)
		}
	}
}

// TestMostNoughts: more than 16384 of them aren't told of: a size beyond those, and
// the blocks that are there, is more than they have.
func TestMostNoughts(t *testing.T) {
	for _, real := range []int64{0, 1, 5, 12} {
		w := small()
		n := w.give()
		var at [15]int64
		for i := range real {
			at[2*i%12+2*i/12] = w.take()
		}
		w.set(n, 0x8000, 0, 0, 1, at)
		w.root(entry{n, "x"})
		most := 1024 * (maxNoughts + real)
		for size, want := range map[int64]api.Errno{0: api.OK, 16777216: api.OK, most - 1024: api.OK, most - 1: api.OK, most: api.OK, most + 1: api.ErrCount, most + 1024: api.ErrCount, 1 << 30: api.ErrCount, 1<<32 - 1: api.ErrCount} {
			put32(w.inode(n), 4, size)
			fails(t, "a size", w.disk(), want)
		}
	}
	// blocks behind the last noughts that are told of
	w := small()
	data := pattern(2048, 1)
	blocks := w.fill(data, false)
	chain := []int64{w.take(), w.take(), w.take()}
	for i, n := range chain {
		clear(w.at(n))
		if i < 2 {
			put32(w.at(n), 4*7, chain[i+1])
		}
	}
	put32(w.at(chain[2]), 4*9, blocks[0])
	put32(w.at(chain[2]), 4*200, blocks[1])
	n := w.give()
	w.set(n, 0x8000, 0, 0, 1, [15]int64{14: chain[0]})
	w.root(entry{n, "x"})
	for size, want := range map[int64]api.Errno{16777216: api.OK, 16777216 + 1: api.OK, 16777216 + 1025: api.OK, 16777216 + 2048: api.OK, 16777216 + 2049: api.ErrCount} {
		put32(w.inode(n), 4, size)
		d := w.disk()
		got := tree(t, "three blocks of numbers", d)
		if got.e != want || want == api.OK && (len(got.lost) != 0 || !bytes.Equal(content(d, got.paths[1])[16777216:], data[:size-16777216])) {
			t.Errorf("size %d: %d %v", size, got.e, got.lost)
		}
	}
}

// faulty: a file with a block at each level: of the twelve, behind one, two and three
// blocks of numbers; and a number, at such a place, is another one.
func faulty(t *testing.T, what string, number func(w *world, own int64) int64, want api.Errno) {
	t.Helper()
	for _, mode := range []int64{0x81A4, 0xA1FF, 0x41ED} {
		for place := range 10 {
			w := newWorld(120, 128, 32, int64(place))
			other := w.file([]byte("other")) // inode and block are known: the first ones
			var at [15]int64
			at[0] = w.take()
			copy(w.at(at[0]), packed())
			spots := []func(v int64){func(v int64) { at[3] = v }}
			for level := 1; level <= 3; level++ {
				spots = append(spots, func(v int64) { at[11+level] = v })
				above := int64(0)
				for i := range level {
					n := w.take()
					clear(w.at(n))
					if i == 0 {
						at[11+level] = n
					} else {
						put32(w.at(above), 4*100, n)
					}
					spots = append(spots, func(v int64) { put32(w.at(n), 4*100, v) })
					above = n
				}
				put32(w.at(above), 4*100, w.take())
			}
			spots[place](number(w, at[0]))
			n := w.give()
			w.set(n, mode, 1024, 2, 1, at)
			w.root(entry{other, "other"}, entry{n, "x"})
			got := tree(t, what, w.disk())
			if got.e != want {
				t.Errorf("%s: mode %x, place %d: error %d, not %d", what, mode, place, got.e, want)
			}
		}
	}
}

func TestFaults(t *testing.T) {
	faulty(t, "nothing", func(w *world, own int64) int64 { return w.takeClear() }, api.OK)
	faulty(t, "noughts", func(w *world, own int64) int64 { return 0 }, api.OK)
	faulty(t, "one behind all", func(w *world, own int64) int64 { return 120 }, api.ErrRange)
	faulty(t, "one behind all in the same group", func(w *world, own int64) int64 { return 121 }, api.ErrRange)
	faulty(t, "far behind all", func(w *world, own int64) int64 { return 1<<32 - 1 }, api.ErrRange)
	faulty(t, "the last one, that isn't used", func(w *world, own int64) int64 { return w.left[len(w.left)-1] }, api.ErrForm)
	faulty(t, "another's", func(w *world, own int64) int64 { return get32(w.inode(w.oldest()), 40) }, api.ErrCross)
	faulty(t, "block 1", func(w *world, own int64) int64 { return 1 }, api.ErrCross)
	faulty(t, "block 2", func(w *world, own int64) int64 { return 2 }, api.ErrCross)
	faulty(t, "a map of blocks", func(w *world, own int64) int64 { return w.rows[0].Blocks }, api.ErrCross)
	faulty(t, "a map of inodes", func(w *world, own int64) int64 { return w.rows[0].Inodes }, api.ErrCross)
	faulty(t, "the inodes' first", func(w *world, own int64) int64 { return w.rows[0].Table }, api.ErrCross)
	faulty(t, "the inodes' last", func(w *world, own int64) int64 { return w.rows[0].Table + 3 }, api.ErrCross)
	faulty(t, "its own", func(w *world, own int64) int64 { return own }, api.ErrCross)
}

// takeClear: a block more, of noughts.
func (w *world) takeClear() int64 {
	n := w.take()
	clear(w.at(n))
	return n
}

// oldest: the inode that was given first: in a volume of one group that which is of
// the file with the text "other".
func (w *world) oldest() int64 {
	for n := int64(11); n <= w.Each; n++ {
		if w.nodes[0].Has(n-1) && bytes.HasPrefix(w.at(get32(w.inode(n), 40)%w.Blocks), []byte("other")) {
			return n
		}
	}
	panic("there is none")
}

// TestGroupsFixed: fixed blocks of a group that isn't the inode's own.
func TestGroupsFixed(t *testing.T) {
	for g := range 3 {
		for i := range 6 {
			w := newWorld(190, 64, 16, 1)
			x := w.rows[g]
			n := w.file([]byte("x"))
			put32(w.inode(n), 44, []int64{1 + 64*int64(g), 2 + 64*int64(g), x.Blocks, x.Inodes, x.Table, x.Table + 1}[i])
			fails(t, "a fixed block", w.root(entry{n, "x"}).disk(), api.ErrCross)
		}
	}
}

// TestTwice: blocks that two inodes have.
func TestTwice(t *testing.T) {
	build := func(do func(w *world, a, b, f int64)) []byte {
		w := small()
		a, b := w.file(pattern(14000, 1)), w.file(pattern(14000, 2))
		f := w.folder(w.give(), 2)
		do(w, a, b, f)
		return w.root(entry{a, "a"}, entry{f, "f"}, entry{b, "b"}).disk()
	}
	block := func(w *world, n int64, i int) int64 { return get32(w.inode(n), 40+4*i) }
	put := func(w *world, n int64, i int, v int64) { put32(w.inode(n), 40+4*i, v) }
	fails(t, "nothing", build(func(w *world, a, b, f int64) {}), api.OK)
	fails(t, "two files", build(func(w *world, a, b, f int64) { put(w, b, 0, block(w, a, 0)) }), api.ErrCross)
	fails(t, "two files, the last", build(func(w *world, a, b, f int64) { put(w, b, 11, block(w, a, 5)) }), api.ErrCross)
	fails(t, "a file's block of numbers", build(func(w *world, a, b, f int64) { put(w, b, 11, block(w, a, 12)) }), api.ErrCross)
	fails(t, "two files' block of numbers", build(func(w *world, a, b, f int64) { put(w, b, 12, block(w, a, 12)) }), api.ErrCross)
	fails(t, "a block of numbers that is a file's", build(func(w *world, a, b, f int64) { put(w, b, 12, block(w, a, 2)) }), api.ErrCross)
	fails(t, "a file and a folder", build(func(w *world, a, b, f int64) { put(w, f, 1, block(w, a, 2)) }), api.ErrCross)
	fails(t, "a folder and a file", build(func(w *world, a, b, f int64) { put(w, b, 1, block(w, f, 0)) }), api.ErrCross)
	fails(t, "a file, and its own", build(func(w *world, a, b, f int64) { put(w, a, 1, block(w, a, 0)) }), api.ErrCross)
	fails(t, "behind its size", build(func(w *world, a, b, f int64) {
		put32(w.inode(b), 4, 5)
		put(w, b, 13, block(w, a, 2))
	}), api.ErrCross)
	w := small()
	n := w.file([]byte("x"))
	w.root(entry{n, "x"})
	put(w, n, 1, block(w, 2, 0))
	fails(t, "the root's", w.disk(), api.ErrCross)
	// a block that names itself, again and again
	for i := 12; i < 15; i++ {
		w := small()
		self := w.take()
		for k := range 256 {
			put32(w.at(self), 4*k, self)
		}
		n := w.give()
		var at [15]int64
		at[i] = self
		w.set(n, 0x8000, 5, 2, 1, at)
		fails(t, "a block of numbers that names itself", w.root(entry{n, "x"}).disk(), api.ErrCross)
	}
}

// TestNoughtBlocks: a block of numbers that are all 0, at each level, is met too.
func TestNoughtBlocks(t *testing.T) {
	w := small()
	n := w.give()
	w.set(n, 0x8000, 100000, 2, 1, [15]int64{12: w.takeClear(), 13: w.takeClear(), 14: w.takeClear()})
	got := tree(t, "noughts", w.root(entry{n, "x"}).disk())
	ok(t, got.e)
	if len(got.lost) != 0 || !slices.Equal(got.paths[1].Runs, []api.Ext{{From: -100000}}) {
		t.Error(got.lost, got.paths[1])
	}
}

func TestLost(t *testing.T) {
	w := newWorld(190, 64, 16, 0)
	n := w.file(pattern(14*1024, 1))
	gone := w.file(pattern(3000, 2))
	w.nodes[(gone-1)/16].Set((gone-1)%16, false)
	w.root(entry{n, "x"}, entry{0, "gone"})
	for _, b := range []int64{64, 128, 189} { // at the groups' ends
		w.mark(b, true)
	}
	got := tree(t, "blocks that nobody has", w.disk())
	ok(t, got.e)
	var want []int64
	for i := range 3 {
		want = append(want, get32(w.inode(gone), 40+4*i))
	}
	want = append(want, 64, 128, 189)
	if !slices.Equal(got.lost, want) {
		t.Error(got.lost, want)
	}
	put16(w.inode(n), 0, 0)
	if lost, e := extdir.Lost(bare(w.disk())); e != api.ErrForm || len(lost) != 0 {
		t.Error(lost, e)
	}
}

// TestOdd: which inodes are asked, and what is counted.
func TestOdd(t *testing.T) {
	build := func(do func(w *world)) []extdir.Links {
		t.Helper()
		w := newWorld(190, 64, 24, 0)
		n := w.file([]byte("x"))                                                              // 11
		w.folder(w.give(), 3, entry{12, "."}, entry{2, ".."}, entry{13, "in"}, entry{n, "x"}) // 12
		w.folder(w.give(), 2, entry{13, "."}, entry{12, ".."})                                // 13
		put16(w.inode(n), 26, 2)
		w.root(entry{n, "x"}, entry{12, "f"})
		put16(w.inode(2), 26, 3)
		do(w)
		got := tree(t, "counts of rows", w.disk())
		ok(t, got.e)
		return got.odd
	}
	for what, c := range map[string]struct {
		do   func(w *world)
		want []extdir.Links
	}{
		"none":             {func(w *world) {}, nil},
		"the root":         {func(w *world) { put16(w.inode(2), 26, 2) }, []extdir.Links{{Node: 2, Rows: 3, Said: 2}}},
		"a file":           {func(w *world) { put16(w.inode(11), 26, 0) }, []extdir.Links{{Node: 11, Rows: 2, Said: 0}}},
		"the most":         {func(w *world) { put16(w.inode(11), 26, 65535) }, []extdir.Links{{Node: 11, Rows: 2, Said: 65535}}},
		"a folder":         {func(w *world) { put16(w.inode(12), 26, 4) }, []extdir.Links{{Node: 12, Rows: 3, Said: 4}}},
		"those ahead":      {func(w *world) { put16(w.inode(1), 26, 4); put16(w.inode(3), 26, 4); put16(w.inode(10), 26, 4) }, nil},
		"another first":    {func(w *world) { w.First = 10; put16(w.inode(10), 26, 4) }, []extdir.Links{{Node: 10, Rows: 0, Said: 4}}},
		"the least first":  {func(w *world) { w.First = 3; quiet(w, 3, 10); put16(w.inode(3), 26, 1) }, []extdir.Links{{Node: 3, Rows: 0, Said: 1}}},
		"a later first":    {func(w *world) { w.First = 12; put16(w.inode(11), 26, 4) }, nil},
		"the last first":   {func(w *world) { w.First = 24; put16(w.inode(13), 26, 9); put16(w.inode(2), 26, 9) }, []extdir.Links{{Node: 2, Rows: 3, Said: 9}}},
		"no row":           {func(w *world) { put16(w.inode(w.give()), 26, 1) }, []extdir.Links{{Node: 14, Rows: 0, Said: 1}}},
		"no row, and 0":    {func(w *world) { put16(w.inode(w.give()), 26, 0) }, nil},
		"not used":         {func(w *world) { put16(w.inode(14), 26, 1) }, nil},
		"the second group": {func(w *world) { w.nodes[1].Set(0, true); put16(w.inode(25), 26, 1) }, []extdir.Links{{Node: 25, Rows: 0, Said: 1}}},
		"the last of all":  {func(w *world) { w.nodes[2].Set(23, true); put16(w.inode(72), 26, 1) }, []extdir.Links{{Node: 72, Rows: 0, Said: 1}}},
		"places behind":    {func(w *world) { w.nodes[2].Set(24, true); w.nodes[0].Set(24, true) }, nil},
		"more": {func(w *world) {
			w.nodes[2].Set(3, true)
			for _, n := range []int64{52, 13, 2, 12} {
				put16(w.inode(n), 26, 77)
			}
		}, []extdir.Links{{Node: 2, Rows: 3, Said: 77}, {Node: 12, Rows: 3, Said: 77}, {Node: 13, Rows: 2, Said: 77}, {Node: 52, Rows: 0, Said: 77}}},
	} {
		if got := build(c.do); !slices.Equal(got, c.want) {
			t.Errorf("%s: %v, not %v", what, got, c.want)
		}
	}
	// a folder that isn't met: its rows name nothing
	w := small()
	w.folder(w.give(), 1, entry{11, "."}, entry{2, ".."})
	d := w.root().disk()
	if got := tree(t, "a folder that isn't met", d); got.e != api.OK || !slices.Equal(got.odd, []extdir.Links{{Node: 11, Rows: 0, Said: 1}}) || !slices.Equal(got.lost, []int64{9}) {
		t.Error(got)
	}
	// dots that name no inode
	w = small()
	w.root(entry{99, "."}, entry{1 << 31, ".."}, entry{11, ".."})
	if got := tree(t, "dots that name nothing", w.disk()); got.e != api.OK || len(got.odd) != 0 || len(got.paths) != 1 {
		t.Error(got)
	}
	put16(w.inode(2), 0, 0)
	if l, e := extdir.Odd(bare(w.disk())); e != api.ErrForm || len(l) != 0 {
		t.Error(l, e)
	}
}

// quiet: inodes say that no row names them.
func quiet(w *world, from, to int64) {
	for n := from; n <= to; n++ {
		put16(w.inode(n), 26, 0)
	}
}
