package ext_test

import (
	"bytes"
	"math"
	"math/rand"
	"slices"
	"testing"

	"fettle/api"
	"fettle/ext"
	"fettle/extent"
)

func TestOpen(t *testing.T) {
	if v, e := ext.Open(nil); v != nil || e != api.ErrNil {
		t.Error(v, e)
	}
	w := usual()
	d := w.disk()
	v, e := opened(t, "usual", d)
	ok(t, e)
	if v.Groups() != 3 || v.Table() != 3 || len(v.Rows) != 3 || v.Super.Blocks != 150 || len(v.Blocks) != 3 || len(v.Nodes) != 3 {
		t.Errorf("%+v", v.Super)
	}
	r := rand.New(rand.NewSource(1))
	for range 300 {
		w := anyWorld(r)
		d := w.disk()
		wants(t, "any", d, api.OK)
		wants(t, "just as many blocks", d[:1024*w.Blocks], api.OK)
		wants(t, "a byte fewer", d[:1024*w.Blocks-1], api.ErrRange)
	}
	big := newWorld(r, 16384, 8192, 8192)
	wants(t, "the greatest groups", big.disk(), api.OK)
	wants(t, "the most groups", newWorld(r, 1+32*64, 64, 472).disk(), api.OK)
	wants(t, "the least volume", newWorld(r, 8, 64, 8).disk(), api.OK)
}

func TestOpenSizes(t *testing.T) {
	d := usual().disk()[:150*1024]
	for n := range d {
		if n%1024 > 1 && n%1024 < 1023 {
			continue
		}
		if _, e := ext.Open(bare(d[:n])); e != api.ErrRange {
			t.Fatal("size", n, e)
		}
	}
	wants(t, "noughts", make([]byte, 4096), api.ErrMagic)
	wants(t, "nothing", nil, api.ErrRange)
}

// Every byte of block 1, of block 2 and of the maps: what it is changed to is told,
// as the words say; no other byte counts.
func TestOpenEveryByte(t *testing.T) {
	w := newWorld(rand.New(rand.NewSource(9)), 80, 64, 16)
	d := w.disk()
	counts := map[int]bool{1: true, 2: true}
	for _, r := range w.rows {
		counts[int(r.Blocks)], counts[int(r.Inodes)] = true, true
	}
	for at := range d {
		was := d[at]
		if !counts[at/1024] {
			if at%7 == 0 {
				d[at] ^= byte(1 + at%255)
				wants(t, "a byte that says nothing", d, api.OK)
			}
			d[at] = was
			continue
		}
		for _, v := range []byte{was ^ 1, was ^ 128, was ^ 16, 255 - was} {
			d[at] = v
			opened(t, "a byte", d)
		}
		d[at] = was
	}
}

// TestOpenMaps: every bit of every map: those of fixed blocks and behind the group's
// end must be set, those up to Per and Each are counted, all others say nothing.
func TestOpenMaps(t *testing.T) {
	w := newWorld(rand.New(rand.NewSource(10)), 100, 72, 40)
	v, e := ext.Open(bare(w.disk()))
	ok(t, e)
	for g, size := range []int64{72, 100 - 73} {
		for i := range int64(8192) {
			if i > 80 && i%61 != 0 && i < 8180 {
				continue
			}
			must := i < 72 && (i >= size || slices.Contains(v.Fixed(int64(g)), 1+72*int64(g)+i))
			w.changed(t, w.blocks[g], w.rows[g].Blocks, i, i < 72, must)
			w.changed(t, w.nodes[g], w.rows[g].Inodes, i, i < 40, false)
		}
	}
}

// changed: a bit of a map is another one, and the counts are changed with it, or
// not: is it one that is counted, or one that must be set?
func (w *world) changed(t *testing.T, m ext.Map, block, i int64, counted, must bool) {
	t.Helper()
	d := w.disk()
	m.Set(i, !m.Has(i))
	copy(d[1024*block:], m)
	right, wrong := api.OK, api.OK
	if counted {
		wrong = api.ErrCount
	}
	if must {
		right, wrong = api.ErrForm, api.ErrForm
	}
	wants(t, "a bit, but not its count", d, wrong)
	wants(t, "a bit, and its count", w.disk(), right)
	m.Set(i, !m.Has(i))
}

// TestOpenFixed: fixed blocks at the edges of their groups, beyond them, and on one
// another.
func TestOpenFixed(t *testing.T) {
	for g := range 3 {
		w := usual()
		l := groups(150, 64)
		from, to := l[g].from, l[g].to
		for _, x := range []struct {
			set  func(r *ext.Row, n int64)
			long int64
		}{
			{func(r *ext.Row, n int64) { r.Blocks = n }, 1},
			{func(r *ext.Row, n int64) { r.Inodes = n }, 1},
			{func(r *ext.Row, n int64) { r.Table = n }, 3},
		} {
			was := w.rows[g]
			for _, n := range []int64{0, 1, from - 1, from, from + 1, from + 2, to - 4, to - 3, to - 2, to - 1, to, 150, 151, 1 << 16, 1<<32 - 1, 1<<32 - 3, was.Blocks, was.Inodes, was.Table, was.Table + 1, was.Table + 2, was.Table - 1, was.Blocks - 2, was.Inodes - 2} {
				d := w.disk()
				r := w.rows[g]
				x.set(&r, n)
				layRow(r, d[2048+32*g:])
				_, e := opened(t, "a row", d)
				if outside := n < from || n+x.long > to; outside != (e == api.ErrRange) {
					t.Errorf("group %d, %d: error %d", g, n, e)
				}
				if n == from || n == from+1 {
					if e != api.ErrCross {
						t.Errorf("group %d, %d: error %d", g, n, e)
					}
				}
			}
		}
	}
}

// A group that has too few blocks for its fixed ones.
func TestOpenLastGroup(t *testing.T) {
	for _, left := range []int64{1, 2, 3, 4, 5, 6, 7} {
		w := newWorld(rand.New(rand.NewSource(4)), 1+64+7, 64, 24)
		w.Super.Blocks = 1 + 64 + left
		r := &w.rows[1]
		*r = ext.Row{Blocks: 67, Inodes: 68, Table: 69}
		for i := range int64(64) {
			w.blocks[1].Set(i, true)
		}
		want := api.ErrRange
		if left == 7 {
			want = api.OK
		}
		wants(t, "the last group", w.disk(), want)
	}
}

// The first that applies: group by group, and of each in order.
func TestOpenFirstError(t *testing.T) {
	w := usual()
	w.blocks[2].Set(19, true)
	w.blocks[1].Set(40, true)
	w.blocks[1].Set(41, true)
	d := w.disk()
	row := func(g int) []byte { return d[2048+32*g : 2080+32*g] }
	mapped := func(g int) ext.Map { return ext.Map(d[1024*w.rows[g].Blocks : 1024*w.rows[g].Blocks+1024]) }
	steps := []struct {
		want api.Errno
		do   func()
	}{
		{api.OK, func() {}},
		{api.ErrCount, func() { put32(d, 1024+12, w.FreeBlocks-1) }},
		{api.ErrCount, func() { put16(row(2), 14, 65535) }},
		{api.ErrForm, func() { mapped(2).Set(21, false) }},                   // behind its end
		{api.ErrCross, func() { put32(row(2), 0, w.rows[2].Table) }},         // the last group
		{api.ErrRange, func() { put32(row(2), 4, 128) }},                     // a block of the group ahead
		{api.ErrCount, func() { put16(row(1), 12, w.rows[1].FreeBlocks+1) }}, // a group ahead
		{api.ErrForm, func() { mapped(1).Set(0, false) }},
		{api.ErrCross, func() { put32(row(1), 0, w.rows[1].Inodes) }},
		{api.ErrRange, func() { put32(row(1), 8, 127) }},
		{api.ErrCross, func() { put32(row(0), 8, w.rows[0].Inodes-1) }},
		{api.ErrRange, func() { put32(row(0), 4, 0) }},
		{api.ErrRange, func() { d = d[:150*1024-1] }},  // fewer blocks
		{api.ErrForm, func() { put32(d, 1024+84, 2) }}, // Check
		{api.ErrMagic, func() { d[1024+56] ^= 1 }},
		{api.ErrRange, func() { d = d[:2047] }}, // no block 1
	}
	for i, s := range steps {
		s.do()
		if _, e := opened(t, "step", d); e != s.want {
			t.Errorf("step %d: %d, not %d", i, e, s.want)
		}
	}
}

func TestOpenCounts(t *testing.T) {
	w := usual()
	for _, by := range []int64{-1, 1, 2, 7} {
		d := w.disk()
		put32(d, 1024+12, w.FreeBlocks+by)
		wants(t, "the sum of blocks", d, api.ErrCount)
		d = w.disk()
		put32(d, 1024+16, w.FreeInodes+by)
		wants(t, "the sum of inodes", d, api.ErrCount)
		for g := range 3 {
			d := w.disk()
			put16(d, 2048+32*g+12, w.rows[g].FreeBlocks+by)
			put32(d, 1024+12, w.FreeBlocks+by)
			wants(t, "a group's blocks, and their sum", d, api.ErrCount)
			d = w.disk()
			put16(d, 2048+32*g+14, w.rows[g].FreeInodes+by)
			put32(d, 1024+16, w.FreeInodes+by)
			wants(t, "a group's inodes, and their sum", d, api.ErrCount)
		}
		d = w.disk()
		put16(d, 2048+12, w.rows[0].FreeBlocks+by)
		put16(d, 2080+12, w.rows[1].FreeBlocks-by)
		wants(t, "two groups' blocks, but not their sum", d, api.ErrCount)
	}
	full := usual()
	for g := range 3 {
		for i := range int64(8192) {
			full.blocks[g].Set(i, true)
			full.nodes[g].Set(i, true)
		}
	}
	v, e := opened(t, "all is used", full.disk())
	ok(t, e)
	if len(v.Space()) != 0 || v.FreeBlocks != 0 || v.FreeInodes != 0 {
		t.Error(v.Space())
	}
}

// Any changes: Open ends, and answers as the words say.
func TestOpenAny(t *testing.T) {
	r := rand.New(rand.NewSource(2))
	met := map[api.Errno]int{}
	for range 3000 {
		w := anyWorld(r)
		d := w.disk()
		for range r.Intn(3) {
			g := r.Intn(len(w.rows))
			switch at := r.Intn(4096); r.Intn(6) {
			case 0:
				d[1024+at%1024] = byte(r.Int())
			case 1:
				d[1024+[]int{0, 4, 12, 16, 20, 24, 32, 36, 40, 56, 57, 76, 84, 88, 96, 100}[at%16]] = byte(r.Intn(9))
			case 2:
				put32(d, 2048+32*g+4*r.Intn(3), r.Int63n(w.Blocks+2))
			case 3:
				put16(d, 2048+32*g+12+2*r.Intn(2), r.Int63n(70))
			case 4:
				i := r.Int63n(w.Per)
				ext.Map(d[1024*w.rows[g].Blocks:][:1024]).Set(i, r.Intn(2) == 0)
			default:
				d = d[:len(d)-r.Intn(3000)]
			}
			if len(d) < int(1024*w.Blocks) {
				break
			}
		}
		_, e := opened(t, "any", d)
		met[e]++
	}
	for _, e := range []api.Errno{api.OK, api.ErrForm, api.ErrRange, api.ErrMagic, api.ErrCross, api.ErrCount} {
		if met[e] < 15 {
			t.Error(met)
		}
	}
	for i := range 300 {
		opened(t, "any bytes", pattern(r.Intn(9000), int64(i)))
	}
}

// Each read is refused, or has other bytes than were asked for.
func TestRefused(t *testing.T) {
	d := usual().disk()
	all := refusing(d, 0, api.OK)
	_, e := ext.Open(all)
	ok(t, e)
	if all.reads < 8 {
		t.Fatal(all.reads)
	}
	for n := 1; n <= all.reads; n++ {
		for _, want := range []api.Errno{api.ErrIO, api.ErrState} {
			if v, e := ext.Open(refusing(d, n, want)); v != nil || e != want {
				t.Errorf("read %d: %d", n, e)
			}
		}
		for _, size := range []int{0, 1, 1023, 1025, 4096} {
			other := &odd{bare: d, answer: func(read int, at, _ int64) ([]byte, api.Errno, bool) {
				return append(bytes.Clone(d[at:at+1024]), d...)[:size], api.OK, read == n
			}}
			if v, e := ext.Open(other); v != nil || e != api.ErrRange {
				t.Errorf("read %d, %d bytes: %d", n, size, e)
			}
		}
	}
	for _, want := range []api.Errno{api.ErrIO, api.ErrState} {
		v, e := ext.Open(refusing(d, all.reads+1, want))
		ok(t, e)
		if b, e := v.Read(5); len(b) != 0 || e != want {
			t.Error("Read", b, e)
		}
		v, e = ext.Open(refusing(d, all.reads+1, want))
		ok(t, e)
		v.Nodes[0].Set(4, true)
		if x, e := v.Node(5); x != (ext.Inode{}) || e != want {
			t.Error("Node", x, e)
		}
	}
	short := &odd{bare: d, answer: func(read int, _, _ int64) ([]byte, api.Errno, bool) { return d[:1000], api.OK, read > all.reads }}
	v, e := ext.Open(short)
	ok(t, e)
	v.Nodes[0].Set(4, true)
	if b, e := v.Read(5); len(b) != 0 || e != api.ErrRange {
		t.Error("Read", b, e)
	}
	if x, e := v.Node(5); x != (ext.Inode{}) || e != api.ErrRange {
		t.Error("Node", x, e)
	}
}

func TestRead(t *testing.T) {
	w := usual()
	d := append(w.disk(), pattern(4096, 1)...) // blocks that the partition has, and the volume hasn't
	v, e := ext.Open(bare(d))
	ok(t, e)
	for n := int64(1); n < 150; n++ {
		b, e := v.Read(n)
		if e != api.OK || !bytes.Equal(b, d[1024*n:1024*n+1024]) {
			t.Fatal(n, e)
		}
	}
	for _, n := range []int64{0, -1, 150, 151, 1 << 32, 1<<32 + 5, math.MinInt64, math.MaxInt64, 1 << 54, 1<<54 + 5} {
		if b, e := v.Read(n); e != api.ErrRange || len(b) != 0 {
			t.Error(n, e)
		}
	}
	was := bytes.Clone(d)
	b, _ := v.Read(9)
	clear(b[:cap(b)])
	if !bytes.Equal(d, was) {
		t.Error("what is read isn't new memory")
	}
}

func TestFixed(t *testing.T) {
	v, e := ext.Open(bare(usual().disk()))
	ok(t, e)
	for g := range int64(3) {
		l := v.Fixed(g)
		r := v.Rows[g]
		if !slices.Equal(l, []int64{1 + 64*g, 2 + 64*g, r.Blocks, r.Inodes, r.Table, r.Table + 1, r.Table + 2}) {
			t.Error(g, l)
		}
		clear(l[:cap(l)])
		if v.Fixed(g)[0] != 1+64*g {
			t.Error("not new memory")
		}
		if v.Space().Has(1024 * r.Table) {
			t.Error("what is fixed is free")
		}
	}
	for _, g := range []int64{-1, 3, 4, 1 << 32, math.MinInt64, math.MaxInt64} {
		if l := v.Fixed(g); len(l) != 0 {
			t.Error(g, l)
		}
	}
}

func TestUsed(t *testing.T) {
	w := usual()
	for g := range 3 {
		for i := range int64(64) {
			w.blocks[g].Set(i, true)
		}
	}
	var want extent.Set
	for _, n := range []int64{63, 64, 65 + 63, 129 + 20} { // at the groups' ends
		g, i := (n-1)/64, (n-1)%64
		if n == w.rows[g].Blocks || n == w.rows[g].Inodes || n >= w.rows[g].Table && n < w.rows[g].Table+3 {
			t.Fatal("a fixed one", n)
		}
		w.blocks[g].Set(i, false)
		want = extent.Union(want, extent.Norm(api.Ext{From: 1024 * n, To: 1024*n + 1024}))
	}
	v, e := opened(t, "four are free", w.disk())
	ok(t, e)
	for n := int64(-3); n < 160; n++ {
		if v.Used(n) == slices.Contains([]int64{63, 64, 128, 149}, n) {
			t.Error(n)
		}
	}
	for _, n := range []int64{1 << 32, 1<<32 + 63, math.MinInt64, math.MaxInt64} {
		if !v.Used(n) {
			t.Error(n)
		}
	}
	if !slices.Equal(v.Space(), want) || len(want) != 3 {
		t.Error(v.Space())
	}
	v.Blocks[0].Set(62, true)
	if !v.Used(63) || v.Used(64) || v.Space().Bytes() != 3*1024 {
		t.Error("the map is another one")
	}
}

func TestNode(t *testing.T) {
	r := rand.New(rand.NewSource(5))
	for range 60 {
		w := anyWorld(r)
		d := w.disk()
		v, e := opened(t, "any", d)
		ok(t, e)
		for n := int64(-3); n < w.Inodes+4; n++ {
			x, e := v.Node(n)
			var want ext.Inode
			error := api.ErrRange
			if n >= 1 && n <= w.Inodes {
				g, i := (n-1)/w.Each, (n-1)%w.Each
				error = api.ErrState
				if bit(w.nodes[g], i) {
					want, error = ext.ParseInode(d, int(1024*w.rows[g].Table+128*i))
				}
			}
			if e != error || x != want {
				t.Fatalf("inode %d: %+v %d, not %+v %d", n, x, e, want, error)
			}
		}
		for _, n := range []int64{1 << 32, 1<<32 + 1, math.MinInt64, math.MaxInt64} {
			if x, e := v.Node(n); e != api.ErrRange || x != (ext.Inode{}) {
				t.Error(n, x, e)
			}
		}
	}
}

// An opened volume is new memory: the disk, and another volume of it, stay.
func TestVolumeIsNew(t *testing.T) {
	d := usual().disk()
	was := bytes.Clone(d)
	a, e := ext.Open(bare(d))
	ok(t, e)
	b, e := ext.Open(bare(d))
	ok(t, e)
	want := b.Space()
	for g := range a.Rows {
		clear(a.Blocks[g][:cap(a.Blocks[g])])
		clear(a.Nodes[g][:cap(a.Nodes[g])])
	}
	clear(a.Rows)
	if !bytes.Equal(d, was) || !slices.Equal(b.Space(), want) || b.Rows[1].Blocks == 0 {
		t.Error("not new memory")
	}
	clear(b.Space())
	if !slices.Equal(b.Space(), want) {
		t.Error("Space isn't new memory")
	}
}

// No volume, and volumes that Open didn't make: nothing panics, all ends.
func TestNoVolume(t *testing.T) {
	var none *ext.Volume
	for _, n := range extremes {
		if b, e := none.Read(n); e != api.ErrNil || len(b) > 0 {
			t.Error(b, e)
		}
		if x, e := none.Node(n); e != api.ErrNil || x != (ext.Inode{}) {
			t.Error(x, e)
		}
		if !none.Used(n) || len(none.Fixed(n)) > 0 {
			t.Error("something of none")
		}
	}
	if len(none.Space()) > 0 {
		t.Error("something of none")
	}
	most := ext.Super{Inodes: math.MaxInt64, Blocks: math.MaxInt64, Per: math.MaxInt64, Each: math.MaxInt64}
	maps := []ext.Map{{1, 2}, nil, {255}}
	for _, v := range []*ext.Volume{
		{},
		{Super: right()},
		{Super: most},
		{Super: most, Rows: []ext.Row{{Table: math.MaxInt64}}, Blocks: maps, Nodes: maps},
		{Super: right(), Rows: make([]ext.Row, 1), Blocks: maps, Nodes: maps},
		{Super: right(), Rows: make([]ext.Row, 9), Blocks: maps[1:], Nodes: maps[1:]},
		{Super: ext.Super{Inodes: 99, Blocks: 99, Per: -1, Each: -9}, Rows: make([]ext.Row, 3), Blocks: maps, Nodes: maps},
	} {
		for _, n := range append([]int64{3, 4, 5, 9, 25, 65, 66}, extremes...) {
			if b, e := v.Read(n); e == api.OK || len(b) > 0 {
				t.Error(n, b, e)
			}
			if x, e := v.Node(n); e == api.OK || x != (ext.Inode{}) {
				t.Error(n, x, e)
			}
			v.Used(n)
			v.Fixed(n)
		}
		v.Space()
	}
}
