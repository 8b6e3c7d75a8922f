package resize_test

import (
	"bytes"
	"math/rand"
	"slices"
	"testing"

	"fettle/api"
	"fettle/ext"
	"fettle/extdir"
	"fettle/rawguest"
	"fettle/resize"
)

// extIs: a volume is opened, of so many blocks; what was there of it is as it was; each
// group has copies of the super and of the rows; and it holds the same files at the
// same places.
func extIs(t *testing.T, what string, was, now []byte, blocks int64, files []rawguest.File) {
	t.Helper()
	a, e := ext.Open(bare(was))
	ok(t, e)
	b, e := ext.Open(bare(now))
	if e != api.OK {
		t.Fatalf("%s: to %d blocks: error %d", what, blocks, e)
	}
	s := a.Super
	s.Blocks = blocks
	s.Inodes, s.FreeBlocks, s.FreeInodes = s.Groups()*s.Each, b.FreeBlocks, b.FreeInodes
	if b.Super != s {
		t.Fatalf("%s: %+v, not %+v", what, b.Super, s)
	}
	for n := int64(1); n < blocks; n++ {
		g := (n - 1) / s.Per
		isNew := g >= a.Groups() && n-1-g*s.Per < 4+s.Table()
		if used := isNew || n < a.Super.Blocks && a.Used(n); b.Used(n) != used {
			t.Fatalf("%s: to %d blocks: block %d", what, blocks, n)
		}
	}
	for n := int64(1); n <= s.Inodes; n++ {
		x, e := a.Node(n)
		y, e2 := b.Node(n)
		if n > a.Inodes {
			e = api.ErrState
		}
		if x != y || e != e2 {
			t.Fatalf("%s: to %d blocks: inode %d", what, blocks, n)
		}
	}
	for g := range s.Groups() {
		from, _ := s.Group(g)
		if !bytes.Equal(now[1024*from:1024*from+2048], now[1024:3072]) {
			t.Fatalf("%s: to %d blocks: no copies in group %d", what, blocks, g)
		}
	}
	ahead, _ := holds(t, what, was, resize.Ext, files)
	behind, free := holds(t, what, now, resize.Ext, files)
	if !samePaths(ahead, behind) || !slices.Equal(free, b.Space()) {
		t.Fatalf("%s: other places", what)
	}
}

// lasting: what is the same of a volume, whatever size it had in between: all but where
// groups that were gone have their fixed blocks, and what is of no use.
func lasting(v *ext.Volume) (list []int64) {
	list = append(list, v.Super.Blocks, v.Inodes, v.FreeBlocks, v.FreeInodes)
	for g, r := range v.Rows {
		list = append(list, r.FreeBlocks, r.FreeInodes, r.Folders, v.Blocks[g].Count(v.Per), v.Nodes[g].Count(v.Each))
	}
	return list
}

// extSweep: a volume is made of each size, and then of the old one again. How many
// sizes it can have.
func extSweep(t *testing.T, what string, d []byte, files []rawguest.File, sizes []int64) (can int) {
	t.Helper()
	old := get32(d, 1024+4)
	a, e := ext.Open(bare(d))
	ok(t, e)
	for _, blocks := range sizes {
		l, e := extTo(t, what, d, blocks)
		if e != api.OK {
			if len(l) > 0 {
				t.Fatalf("%s: pieces beside error %d", what, e)
			}
			continue
		}
		can++
		now := written(t, longer(d, 1024*blocks), l) // as long as the volume is then, no longer
		extIs(t, what, d, now, blocks, files)
		on := longer(now, 1024*max(old, blocks))
		back, e := extTo(t, what, on, old)
		if last := (old - 2) % a.Per; e == api.ErrSmall && last+1 < a.Table()+5 {
			continue // it was smaller than one may be made
		}
		ok(t, e)
		again := written(t, on, back)
		b, e := ext.Open(bare(again))
		if e != api.OK || !slices.Equal(lasting(a), lasting(b)) {
			t.Fatalf("%s: to %d blocks and back: error %d, or not what it was", what, blocks, e)
		}
		holds(t, what, again, resize.Ext, files)
	}
	return can
}

// TestExtEachSize: volumes of one group and of more, with groups that hold something
// and groups that hold nothing.
func TestExtEachSize(t *testing.T) {
	t.Parallel()
	files := []rawguest.File{
		{Name: "a", Data: pattern(3000, 1)},
		{Name: "b", Folder: true, Inside: []rawguest.File{{Name: "c.txt", Data: pattern(15*1024, 2)}}},
	}
	for seed, c := range []struct {
		blocks, per, each, far int64
		most                   int64 // blocks that the sweep goes to
	}{
		{40, 64, 16, 0, 280},
		{200, 64, 16, 0, 300},
		{160, 72, 32, 3, 330},
		{65, 64, 24, 1, 140},
		{66 + 7, 64, 16, 2, 200},
	} {
		shape := rawguest.Ext{Blocks: c.blocks, Per: c.per, Each: c.each, First: 11, Types: true}
		v := rawguest.NewExt(shape, pattern(int(1024*c.blocks)+600*seed, int64(seed)), func(room int64) int64 { return min(room, c.far) })
		d := v.Hold(files...).Bytes()
		can := extSweep(t, "each size", d, files, upTo(-3, c.most))
		want := 0
		for blocks := v.Left[0]; blocks < c.most; blocks++ { // blocks were taken in their order: from here on all is free
			least := 4 + c.each/8 + 1
			if from := 1 + (blocks-2)/c.per*c.per; from < c.blocks && blocks < min(from+c.per, c.blocks) {
				least = max(least, least-1+c.far) // a group that ends ahead keeps its fixed ones
			}
			if (blocks-2)%c.per+1 >= least {
				want++
			}
		}
		if can != want {
			t.Errorf("volume %d: it can have %d sizes, not %d", seed, can, want)
		}
	}
}

func TestExtAny(t *testing.T) {
	t.Parallel()
	can := 0
	for seed := range int64(60) {
		r := rand.New(rand.NewSource(seed))
		x, files := anyExt(r, seed)
		d := x.Bytes()
		sizes := []int64{x.Blocks - 1, x.Blocks, x.Blocks + 1, x.Blocks + x.Per, x.Blocks - x.Per, x.Blocks + 3*x.Per, 1 + x.Per, 1 + 2*x.Per, 1 + 32*x.Per, 2 + 32*x.Per}
		fixed := 4 + x.Each/8
		for g := range int64(len(x.Groups)) + 2 {
			sizes = append(sizes, 1+g*x.Per+fixed, 2+g*x.Per+fixed, 1+g*x.Per)
		}
		for range 8 {
			sizes = append(sizes, r.Int63n(x.Blocks*2), x.Blocks+r.Int63n(100)-50)
		}
		can += extSweep(t, "any volume", d, files, append(sizes, extremes...))
	}
	if can < 500 {
		t.Error("too few that can be:", can)
	}
}

// TestExtMade: of a volume that was made each byte is what it was, when it has its old
// size again; and what was made of a size is what a volume is that was made so.
func TestExtMade(t *testing.T) {
	t.Parallel()
	for _, c := range [][2]int64{{64, 16}, {64, 464}, {128, 40}} {
		per, each := c[0], c[1]
		for _, blocks := range []int64{1 + per, 1 + 2*per} {
			d, e := ext.Make(blocks, per, each)
			ok(t, e)
			for n := int64(8); n < 2+3*per+each/8+8; n++ {
				l, e := extTo(t, "made", d, n)
				made, e2 := ext.Make(n, per, each)
				if e != e2 {
					if last := (n-2)%per + 1; e != api.OK || last != 5+each/8 { // Make asks for one more
						t.Fatal(c, blocks, n, e, e2)
					}
					continue
				}
				if e != api.OK {
					continue
				}
				there := append(bytes.Clone(d), make([]byte, max(0, 1024*(n-blocks)))...)
				now := written(t, there, l)
				if !bytes.Equal(now[:1024*n], made) {
					t.Fatal(c, blocks, n, "not as one that was made so")
				}
				l, e = extTo(t, "made, and another size", now, blocks)
				ok(t, e)
				if n < blocks && !bytes.Equal(written(t, now, l), d) {
					t.Fatal(c, blocks, n, "not what it was")
				}
			}
		}
	}
}

// TestExtPlaces: which pieces there are, and in which order.
func TestExtPlaces(t *testing.T) {
	d, e := ext.Make(80, 64, 16) // groups from 1 and from 65 on
	ok(t, e)
	at := func(blocks ...int64) (l []string) {
		for _, n := range blocks {
			l = append(l, places([]resize.Piece{{At: 1024 * n, B: make([]byte, 1024)}})...)
		}
		return l
	}
	for blocks, want := range map[int64][]string{
		80:  at(3, 67, 1, 2, 65, 66),
		81:  at(3, 67, 1, 2, 65, 66),
		72:  at(3, 67, 1, 2, 65, 66),
		65:  at(3, 1, 2),
		64:  at(3, 1, 2),
		129: at(3, 67, 1, 2, 65, 66),
		136: at(3, 67, 131, 132, 133, 134, 1, 2, 65, 66, 129, 130),
		200: at(3, 67, 131, 132, 133, 134, 195, 196, 197, 198, 1, 2, 65, 66, 129, 130, 193, 194),
	} {
		l, e := extTo(t, "places", d, blocks)
		ok(t, e)
		if !slices.Equal(places(l), want) {
			t.Error(blocks, places(l))
		}
	}
}

// TestExtElse: what isn't named stays as it was: other fields of the super's block, and
// of rows; behind the rows, and in new ones, are noughts; places behind a group's end
// are used, up to a map's last one.
func TestExtElse(t *testing.T) {
	x := rawguest.NewExt(rawguest.Ext{Blocks: 140, Per: 64, Each: 16, First: 11}, pattern(140*1024, 3), func(int64) int64 { return 0 })
	clear(x.Used[1][8:]) // places behind the group's last
	clear(x.Used[2][8:])
	x.Hold()
	d := x.Bytes()
	for _, blocks := range []int64{100, 140, 250} {
		l, e := extTo(t, "else", d, blocks)
		ok(t, e)
		now := written(t, longer(d, 1024*blocks), l)
		for i := range 1024 {
			named := i < 8 || i >= 12 && i < 20
			if !named && now[1024+i] != d[1024+i] {
				t.Fatal("the super's byte", i)
			}
			was, rows := min(3, (blocks+62)/64), (blocks+62)/64
			if i := int64(i); i < 32*was && i%32 >= 18 && now[2048+i] != d[2048+i] || (i >= 32*rows || i >= 32*was && i%32 >= 16) && now[2048+i] != 0 {
				t.Fatal("the rows' byte", i)
			}
		}
		for g := range (blocks + 62) / 64 {
			m := now[1024*(1+64*g+2):][:1024]
			end := min(64, blocks-1-64*g)
			if rawguest.Count(m, 8192) != rawguest.Count(m, end) {
				t.Fatal("places behind the end of group", g)
			}
		}
	}
}

// extFails: ExtTo answers an error, and no piece.
func extFails(t *testing.T, what string, d []byte, blocks int64, want api.Errno) {
	t.Helper()
	if l, e := extTo(t, what, d, blocks); e != want || len(l) > 0 {
		t.Errorf("%s: to %d blocks: error %d, not %d; %d pieces", what, blocks, e, want, len(l))
	}
}

// TestExtErrors: each error, at its edges.
func TestExtErrors(t *testing.T) {
	d, e := ext.Make(202, 64, 24) // Table 3; groups from 1, 65, 129, 193 on; the root is in block 8
	ok(t, e)
	for blocks, want := range map[int64]api.Errno{
		-1: api.ErrSmall, 0: api.ErrSmall, 7: api.ErrSmall, 8: api.ErrSmall, 9: api.OK, 10: api.OK,
		64: api.OK, 65: api.OK, 66: api.ErrSmall, 72: api.ErrSmall, 73: api.OK, 74: api.OK,
		129: api.OK, 130: api.ErrSmall, 136: api.ErrSmall, 137: api.OK,
		200: api.ErrSmall, 201: api.OK, 257: api.OK, 258: api.ErrSmall, 264: api.ErrSmall, 265: api.OK,
		32*64 + 1: api.OK, 32*64 + 2: api.ErrLimit, 32*64 + 9: api.ErrLimit, 16384: api.ErrLimit, 16385: api.ErrLimit,
	} {
		if l, e := extTo(t, "edges", d, blocks); e != want || (e == api.OK) != (len(l) > 0) {
			t.Errorf("to %d blocks: error %d, not %d; %d pieces", blocks, e, want, len(l))
		}
	}
	for _, blocks := range extremes {
		want := api.ErrSmall
		if blocks > 0 {
			want = api.ErrLimit
		}
		extFails(t, "an extreme", d, blocks, want)
	}
	// the fewest blocks that there may be, and the most
	d, e = ext.Make(20, 64, 16)
	ok(t, e)
	for blocks, want := range map[int64]api.Errno{7: api.ErrSmall, 8: api.OK, 9: api.OK} { // the root is in block 7
		if _, e := extTo(t, "eight", d, blocks); e != want {
			t.Errorf("to %d blocks: error %d, not %d", blocks, e, want)
		}
	}
	d, e = ext.Make(100, 8192, 16)
	ok(t, e)
	for blocks, want := range map[int64]api.Errno{16384: api.OK, 16385: api.ErrLimit, 8193: api.OK, 8194: api.ErrSmall, 8199: api.ErrSmall, 8200: api.OK} {
		if _, e := extTo(t, "most", d, blocks); e != want {
			t.Errorf("to %d blocks: error %d, not %d", blocks, e, want)
		}
	}
}

// TestExtShortGroup: a last group of the fewest blocks that are opened: as it is it can't
// be made, but longer, or without that group.
func TestExtShortGroup(t *testing.T) {
	x := rawguest.NewExt(rawguest.Ext{Blocks: 65 + 6, Per: 64, Each: 16, First: 11}, pattern(71*1024, 3), func(int64) int64 { return 0 })
	d := x.Hold().Bytes()
	for blocks, want := range map[int64]api.Errno{71: api.ErrSmall, 70: api.ErrSmall, 66: api.ErrSmall, 65: api.OK, 72: api.OK} {
		l, e := extTo(t, "a short group", d, blocks)
		if e != want {
			t.Errorf("to %d blocks: error %d, not %d", blocks, e, want)
		}
		if e == api.OK {
			extIs(t, "a short group", d, written(t, longer(d, 1024*blocks), l), blocks, nil)
		}
	}
}

// TestExtInUse: what a group that goes, or ends ahead, may not have.
func TestExtInUse(t *testing.T) {
	t.Parallel()
	world := func(far int64) *rawguest.Ext {
		x := rawguest.NewExt(rawguest.Ext{Blocks: 65 + 64 + 40, Per: 64, Each: 16, First: 11}, pattern(169*1024, 3), func(room int64) int64 { return min(room, far) })
		return x.Hold()
	}
	use := func(x *rawguest.Ext, n int64) *rawguest.Ext {
		x.Left = []int64{n}
		x.Take()
		return x
	}
	extSweep(t, "nothing", world(0).Bytes(), nil, upTo(8, 300))
	for n := int64(65 + 6); n < 169; n++ { // each block alone
		if n >= 129 && n < 129+6 {
			continue
		}
		d := use(world(0), n).Bytes()
		for _, blocks := range []int64{65, 72, n - 1, n, n + 1, n + 2, 129, 136, 169} {
			want := api.OK
			if last := (blocks-2)%64 + 1; n >= blocks || last < 7 {
				want = api.ErrSmall
			}
			if _, e := extTo(t, "a block", d, blocks); e != want {
				t.Fatalf("block %d, to %d blocks: error %d, not %d", n, blocks, e, want)
			}
		}
	}
	for n := int64(11); n <= 48; n++ { // each inode alone
		x := world(0)
		x.Spare = []int64{n}
		x.Give()
		d := x.Bytes()
		for blocks, groups := range map[int64]int64{60: 1, 65: 1, 72: 2, 129: 2, 136: 3, 169: 3, 250: 4} {
			want := api.OK
			if n > 16*groups {
				want = api.ErrSmall
			}
			if _, e := extTo(t, "an inode", d, blocks); e != want {
				t.Fatalf("inode %d, to %d blocks: error %d, not %d", n, blocks, e, want)
			}
		}
	}
	// fixed blocks at a group's end: it may go, but not end ahead
	d := world(100).Bytes()
	extSweep(t, "fixed ones at the end", d, nil, upTo(8, 300))
	for blocks, want := range map[int64]api.Errno{65: api.OK, 64: api.ErrSmall, 129: api.OK, 128: api.ErrSmall, 168: api.ErrSmall, 169: api.OK, 170: api.OK} {
		if _, e := extTo(t, "fixed ones at the end", d, blocks); e != want {
			t.Errorf("to %d blocks: error %d, not %d", blocks, e, want)
		}
	}
}

// TestExtOpen: a partition without a right volume: the layer's error below, whatever is
// asked for.
func TestExtOpen(t *testing.T) {
	good, e := ext.Make(150, 64, 16)
	ok(t, e)
	spoil := func(at int, v byte) []byte {
		d := bytes.Clone(good)
		d[at] ^= v
		return d
	}
	for what, c := range map[string]struct {
		d    []byte
		want api.Errno
	}{
		"nothing":                   {nil, api.ErrRange},
		"noughts":                   {make([]byte, 4096), api.ErrMagic},
		"a field":                   {spoil(1024+20, 1), api.ErrForm},
		"a partition that is short": {good[:150*1024-1], api.ErrRange},
		"another count":             {spoil(1024+12, 1), api.ErrCount},
		"a group's count":           {spoil(2048+14, 1), api.ErrCount},
		"a fixed block":             {spoil(2048+1, 1), api.ErrRange},
		"two that are one":          {spoil(2048, 7), api.ErrCross},
		"a map":                     {spoil(3*1024, 1), api.ErrForm},
	} {
		for _, blocks := range append([]int64{0, 1, 7, 48, 150, 180, 200}, extremes...) {
			extFails(t, what, c.d, blocks, c.want)
		}
	}
	for _, blocks := range append([]int64{0, 48}, extremes...) {
		if l, e := resize.ExtTo(nil, blocks); e != api.ErrNil || len(l) > 0 {
			t.Error("no disk:", e)
		}
	}
}

// TestExtFound: behind another size nothing is lost, and no inode is odd.
func TestExtFound(t *testing.T) {
	for seed := range int64(20) {
		r := rand.New(rand.NewSource(seed))
		x, _ := anyExt(r, seed)
		d := x.Bytes()
		for _, blocks := range []int64{x.Blocks - 3, x.Blocks + 1, x.Blocks + 2*x.Per} {
			l, e := extTo(t, "found", d, blocks)
			if e != api.OK {
				continue
			}
			now := written(t, longer(d, 1024*blocks), l)
			lost, e := extdir.Lost(bare(now))
			links, e2 := extdir.Odd(bare(now))
			if e != api.OK || e2 != api.OK || len(lost) > 0 || len(links) > 0 {
				t.Error(seed, blocks, e, e2, lost, links)
			}
		}
	}
}
