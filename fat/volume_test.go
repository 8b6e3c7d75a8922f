package fat_test

import (
	"bytes"
	"maps"
	"math"
	"math/rand"
	"slices"
	"testing"

	"fettle/api"
	"fettle/extent"
	"fettle/fat"
)

func TestExample(t *testing.T) {
	d, e := fat.Make(64, 1)
	ok(t, e)
	v, e := opened(t, "made", d)
	ok(t, e)
	if v.Data() != 6 || v.Clusters() != 58 || v.Counts != (fat.Counts{Free: 57, Next: 3}) || !slices.Equal(v.Space(), extent.Set{{From: 7 * 512, To: 64 * 512}}) {
		t.Errorf("%+v", v)
	}
	if l, e := v.Chain(2, nil); e != api.OK || !slices.Equal(l, []int64{2}) {
		t.Error(l, e)
	}
}

// madeByWords: what Make must answer of sectors and clusters that may be.
func madeByWords(sectors, each int64) ([]byte, fat.Boot) {
	b := fat.Boot{Each: each, Ahead: 4, Tables: 2, Sectors: sectors, Root: 2, Info: 1, Copy: 2}
	for b.Long = 1; 512*b.Long < 4*(sectors/each+2); b.Long++ {
	}
	d := make([]byte, 512*sectors)
	lay(b, d[:512])
	lay(b, d[1024:1536])
	layCounts(d[512:1024], clusters(b)-1, 3)
	for _, at := range []int64{4, 4 + b.Long} {
		put32(d, int(512*at), 0x0FFFFFF8)
		put32(d, int(512*at)+4, 0x0FFFFFFF)
		put32(d, int(512*at)+8, 0x0FFFFFFF)
	}
	return d, b
}

func TestMake(t *testing.T) {
	var sizes []int64
	for n := range int64(1100) {
		sizes = append(sizes, n)
	}
	sizes = append(sizes, 32766, 32767, 32768, 32769, 40000, -1, math.MinInt64, math.MaxInt64, 1<<32+64)
	for _, sectors := range sizes {
		for _, each := range []int64{1, 2, 3, 4, 5, 6, 7, 8, 9, 0, -1, math.MinInt64, math.MaxInt64, 1<<32 + 1} {
			d, e := fat.Make(sectors, each)
			want := api.OK
			switch {
			case sectors < 16 || sectors > 32768 || each < 1 || each > 8:
				want = api.ErrRange
			case !slices.Contains([]int64{1, 2, 4, 8}, each):
				want = api.ErrForm
			}
			if e != want || want != api.OK && len(d) > 0 {
				t.Fatalf("%d, %d: %d, not %d", sectors, each, e, want)
			}
			if want != api.OK {
				continue
			}
			made, b := madeByWords(sectors, each)
			if !bytes.Equal(d, made) {
				t.Fatalf("%d, %d: other bytes", sectors, each)
			}
			v, e := opened(t, "made", d)
			if e != api.OK || v.Boot != b || v.Counts.Free != clusters(b)-1 {
				t.Fatalf("%d, %d: %d; %+v", sectors, each, e, v)
			}
		}
	}
}

func TestOpen(t *testing.T) {
	v, e := opened(t, "usual", usualDisk())
	ok(t, e)
	if v.Clusters() != 34 || len(v.Next) != 34 || v.Next[0] != fat.Free || v.Next[3] != 9 || v.Next[7] != 6 || v.Next[4] != 0x0FFFFFFF || v.Next[6] != fat.Bad {
		t.Errorf("%+v", v)
	}
	if v, e := fat.Open(nil); v != nil || e != api.ErrNil {
		t.Error(v, e)
	}
	r := rand.New(rand.NewSource(1))
	for i := range 1500 {
		b := anyBoot(r)
		d := laid(b, numbers(r, clusters(b)), int64(i))
		wants(t, "any", d, api.OK)
		wants(t, "a longer partition", append(d, pattern(1+r.Intn(600), 1)...), api.OK)
		wants(t, "a shorter one", d[:512*b.Sectors-1], api.ErrRange)
		layCounts(d[512*b.Info:], fat.Unknown, fat.Unknown)
		if b.Copy != b.Info {
			wants(t, "nothing is known", d, api.OK)
		}
	}
}

func TestOpenSizes(t *testing.T) {
	d := usualDisk()
	for n := range d {
		if n%512 > 1 && n%512 < 511 {
			continue
		}
		wants(t, "size", d[:n], api.ErrRange)
	}
	wants(t, "noughts", make([]byte, 4096), api.ErrMagic)
}

// Every byte ahead of the clusters: what it is changed to is told, as the words say;
// no byte of a cluster counts.
func TestOpenEveryByte(t *testing.T) {
	d := usualDisk()
	for at := range d {
		was := d[at]
		values := []byte{was ^ 1, was ^ 128, 0, 255}
		if at >= 12*512 {
			values = values[:1]
		}
		for _, v := range values {
			d[at] = v
			_, e := opened(t, "a byte", d)
			if at >= 12*512 && e != api.OK {
				t.Fatal("byte", at, e)
			}
			if table := at >= 8*512 && at < 12*512; table && v != was && e != api.ErrForm { // the places of no cluster, and the highest bits, too
				t.Fatal("byte", at, e)
			}
		}
		d[at] = was
	}
}

// The first that applies.
func TestOpenFirstError(t *testing.T) {
	d := usualDisk()
	steps := []struct {
		want api.Errno
		do   func()
	}{
		{api.OK, func() {}},
		{api.ErrCount, func() { put32(d, 6*512+488, 0) }},
		{api.ErrForm, func() { d[12*512-1] ^= 1 }},   // the second table's last byte
		{api.ErrMagic, func() { d[6*512+508] ^= 1 }}, // the counts
		{api.ErrForm, func() { d[3*512+511] ^= 1 }},  // the copy
		{api.ErrRange, func() { d = d[:len(d)-1] }},  // fewer sectors
		{api.ErrRange, func() { put32(d, 44, 36) }},  // Check
		{api.ErrForm, func() { put16(d, 11, 1024) }}, // a fixed number
		{api.ErrMagic, func() { d[510] = 0 }},        // the last bytes
		{api.ErrRange, func() { d = d[:511] }},       // no first sector
	}
	for i, s := range steps {
		s.do()
		if _, e := opened(t, "step", d); e != s.want {
			t.Errorf("step %d: %d, not %d", i, e, s.want)
		}
	}
}

func TestOpenCount(t *testing.T) {
	d := usualDisk()
	for free := range int64(40) {
		put32(d, 6*512+488, free)
		want := api.ErrCount
		if free == 34-7 {
			want = api.OK
		}
		wants(t, "Free", d, want)
	}
	put32(d, 6*512+488, fat.Unknown-1)
	wants(t, "great", d, api.ErrCount)
	put32(d, 6*512+488, fat.Unknown)
	wants(t, "unknown", d, api.OK)
}

// One table, no copy.
func TestOpenLeast(t *testing.T) {
	b := fat.Boot{Each: 1, Ahead: 2, Tables: 1, Sectors: 4, Long: 1, Root: 2, Info: 1}
	for _, next := range []uint32{fat.Free, fat.Bad, fat.End, 2, 77} {
		v, e := opened(t, "least", laid(b, []uint32{next}, 8))
		if e != api.OK || !slices.Equal(v.Next, []uint32{next}) {
			t.Error(v, e)
		}
	}
}

// Any bytes: Open ends, and answers as the words say.
func TestOpenAny(t *testing.T) {
	r := rand.New(rand.NewSource(2))
	told := map[api.Errno]int{}
	for i := range 6000 {
		b := anyBoot(r)
		d := laid(b, numbers(r, clusters(b)), int64(i))
		for range r.Intn(3) {
			switch at := r.Intn(512 * int(b.Ahead+b.Tables*b.Long)); r.Intn(3) {
			case 0:
				d[at] = byte(r.Int())
			case 1:
				d[at%100] = byte(r.Intn(9))
			case 2:
				d = d[:r.Intn(len(d))+1]
			}
			if len(d) < 512*int(b.Ahead+b.Tables*b.Long) {
				break
			}
		}
		_, e := opened(t, "any", d)
		told[e]++
	}
	for _, e := range []api.Errno{api.OK, api.ErrForm, api.ErrRange, api.ErrMagic} {
		if told[e] < 20 {
			t.Error(told)
		}
	}
}

// Each read is refused, or has other bytes than were asked for.
func TestOpenRefused(t *testing.T) {
	d := usualDisk()
	all := refusing(d, 0, api.OK)
	_, e := fat.Open(all)
	ok(t, e)
	if all.reads < 4 {
		t.Fatal(all.reads)
	}
	for n := range all.reads {
		for _, want := range []api.Errno{api.ErrIO, api.ErrState} {
			if v, e := fat.Open(refusing(d, n+1, want)); v != nil || e != want {
				t.Errorf("read %d: %d", n+1, e)
			}
		}
		for _, size := range []int{0, 1, 511, 513, 1023, 1025, 4096} {
			other := &odd{bare: d, answer: func(read int, _, _ int64) ([]byte, api.Errno, bool) { return d[:size], api.OK, read == n+1 }}
			if v, e := fat.Open(other); v != nil || e != api.ErrRange {
				t.Errorf("read %d, %d bytes: %d", n+1, size, e)
			}
		}
	}
}

// An opened volume is new memory: the disk, and another volume of it, stay.
func TestVolumeIsNew(t *testing.T) {
	d := usualDisk()
	was := bytes.Clone(d)
	a, e := fat.Open(bare(d))
	ok(t, e)
	b, e := fat.Open(bare(d))
	ok(t, e)
	clear(a.Next)
	if !bytes.Equal(d, was) || b.Next[3] != 9 {
		t.Error("not new memory")
	}
	clear(d)
	if l, e := b.Chain(5, nil); e != api.OK || !slices.Equal(l, []int64{5, 9, 6}) { // nor does it read the disk again
		t.Error(l, e)
	}
}

// chainByWords: what Chain must answer, by a table's numbers from cluster 2 on.
func chainByWords(next []uint32, first int64, marks map[int64]int) ([]int64, api.Errno) {
	var l []int64
	for c := first; ; {
		switch {
		case c < 2 || c >= 2+int64(len(next)):
			return nil, api.ErrRange
		case slices.Contains(l, c):
			return nil, api.ErrLoop
		case marks[c] > 0:
			return nil, api.ErrCross
		case next[c-2] == 0 || next[c-2] == 0x0FFFFFF7:
			return nil, api.ErrForm
		}
		l = append(l, c)
		if next[c-2] >= 0x0FFFFFF8 {
			return l, api.OK
		}
		c = int64(next[c-2])
	}
}

// chained: Chain's answer, held against the plain one; marks are as they were with
// an error, and have the chain's clusters, and no other new one, without one.
func chained(t *testing.T, v *fat.Volume, first int64, marks map[int64]int) ([]int64, api.Errno) {
	t.Helper()
	next, was := slices.Clone(v.Next), maps.Clone(marks)
	want, e := chainByWords(next, first, marks)
	l, got := v.Chain(first, marks)
	if got != e || !slices.Equal(l, want) {
		t.Fatalf("from %d: %d, not %d; %v, not %v", first, got, e, l, want)
	}
	if !slices.Equal(v.Next, next) {
		t.Fatal("the volume is changed")
	}
	for _, c := range want {
		if was != nil {
			was[c] = 1
		}
	}
	if !maps.Equal(marks, was) {
		t.Fatalf("from %d: %v, not %v", first, marks, was)
	}
	return l, e
}

func TestChain(t *testing.T) {
	v, e := fat.Open(bare(usualDisk()))
	ok(t, e)
	for _, c := range []struct {
		first int64
		want  api.Errno
		l     []int64
	}{
		{5, api.OK, []int64{5, 9, 6}}, {9, api.OK, []int64{9, 6}}, {6, api.OK, []int64{6}}, {7, api.OK, []int64{7}},
		{8, api.ErrForm, nil}, {2, api.ErrForm, nil}, {10, api.ErrLoop, nil}, {11, api.ErrLoop, nil}, {35, api.ErrForm, nil},
		{36, api.ErrRange, nil}, {1, api.ErrRange, nil}, {0, api.ErrRange, nil}, {-1, api.ErrRange, nil},
		{math.MinInt64, api.ErrRange, nil}, {math.MinInt64 + 1, api.ErrRange, nil}, {math.MaxInt64, api.ErrRange, nil}, {1<<32 + 5, api.ErrRange, nil},
	} {
		for _, marks := range []map[int64]int{nil, {}, {20: 1}} {
			if l, e := chained(t, v, c.first, marks); e != c.want || !slices.Equal(l, c.l) {
				t.Errorf("from %d: %d, %v", c.first, e, l)
			}
		}
	}
}

// As each cluster is met: the first that applies.
func TestChainFirstError(t *testing.T) {
	v, e := fat.Open(bare(usualDisk()))
	ok(t, e)
	for i, c := range []struct {
		first int64
		marks map[int64]int
		want  api.Errno
	}{
		{5, map[int64]int{5: 1}, api.ErrCross},
		{5, map[int64]int{6: 1}, api.ErrCross},
		{5, map[int64]int{6: 77}, api.ErrCross},
		{5, map[int64]int{6: 0, 9: -1, 5: math.MinInt}, api.OK},
		{9, map[int64]int{5: 1}, api.OK},
		{8, map[int64]int{8: 1}, api.ErrCross},   // ahead of ErrForm
		{2, map[int64]int{2: 1}, api.ErrCross},   // ahead of ErrForm
		{1, map[int64]int{1: 1}, api.ErrRange},   // ahead of ErrCross
		{36, map[int64]int{36: 1}, api.ErrRange}, // ahead of ErrCross
		{10, map[int64]int{10: 1}, api.ErrCross}, // it is met ahead of the loop
		{10, map[int64]int{11: 1}, api.ErrCross},
		{10, map[int64]int{12: 1}, api.ErrLoop},
	} {
		if _, e := chained(t, v, c.first, c.marks); e != c.want {
			t.Errorf("%d: %d, not %d", i, e, c.want)
		}
	}
	// a chain is marked: neither it nor what leads into it is met again
	marks := map[int64]int{}
	chained(t, v, 9, marks)
	for _, first := range []int64{9, 6, 5} {
		if _, e := chained(t, v, first, marks); e != api.ErrCross {
			t.Error(first, e)
		}
	}
	if _, e := chained(t, v, 7, marks); e != api.OK || len(marks) != 3 {
		t.Error(marks, e)
	}
}

// Any table: each chain ends; those that were marked have no cluster twice.
func TestChainAny(t *testing.T) {
	r := rand.New(rand.NewSource(3))
	told := map[api.Errno]int{}
	for i := range 1500 {
		b := anyBoot(r)
		d := laid(b, numbers(r, clusters(b)), int64(i))
		v, e := fat.Open(bare(d))
		ok(t, e)
		marks := map[int64]int{}
		var all []int64
		for range 30 {
			first := r.Int63n(b.Clusters()+6) - 1
			_, e := chained(t, v, first, nil)
			told[e]++
			l, e := chained(t, v, first, marks)
			told[e]++
			all = append(all, l...)
		}
		slices.Sort(all)
		if len(slices.Compact(slices.Clone(all))) != len(all) || len(all) != len(marks) {
			t.Fatal("a cluster is in two chains")
		}
	}
	for _, e := range []api.Errno{api.OK, api.ErrForm, api.ErrRange, api.ErrLoop, api.ErrCross} {
		if told[e] < 300 {
			t.Error(told)
		}
	}
}

// The longest chain of the greatest volume, there and back, and as a loop.
func TestChainLongest(t *testing.T) {
	d, e := fat.Make(32768, 1)
	ok(t, e)
	v, e := fat.Open(bare(d))
	ok(t, e)
	n := v.Clusters()
	for i := range v.Next {
		v.Next[i] = uint32(i + 3)
	}
	v.Next[n-1] = fat.End
	marks := map[int64]int{}
	l, e := v.Chain(2, marks)
	if e != api.OK || int64(len(l)) != n || int64(len(marks)) != n || l[n-1] != n+1 {
		t.Error(e, len(l))
	}
	if runs := v.Runs(l, math.MaxInt64); !slices.Equal(runs, []api.Ext{{From: 512 * v.Data(), To: 512 * 32768}}) {
		t.Error(runs)
	}
	v.Next[n-1] = uint32(n / 2)
	if l, e := v.Chain(2, nil); e != api.ErrLoop || len(l) > 0 {
		t.Error(e, len(l))
	}
	if s := v.Space(); len(s) > 0 {
		t.Error(s)
	}
}

func TestSpace(t *testing.T) {
	r := rand.New(rand.NewSource(4))
	for i := range 1000 {
		b := anyBoot(r)
		next := numbers(r, clusters(b))
		v, e := fat.Open(bare(laid(b, next, int64(i))))
		ok(t, e)
		var want extent.Set
		for c, n := range next {
			from := 512 * (b.Ahead + b.Tables*b.Long + b.Each*int64(c))
			if n != 0 {
				continue
			}
			if last := len(want) - 1; last >= 0 && want[last].To == from {
				want[last].To += 512 * b.Each
			} else {
				want = append(want, api.Ext{From: from, To: from + 512*b.Each})
			}
		}
		if got := v.Space(); !slices.Equal(got, want) {
			t.Fatalf("%v, not %v", got, want)
		}
	}
}

// places: the bytes of runs, one by one.
func places(runs []api.Ext) (l []int64) {
	for _, x := range runs {
		for at := x.From; at < x.To; at++ {
			l = append(l, at)
		}
	}
	return l
}

func TestRuns(t *testing.T) {
	v, e := fat.Open(bare(usualDisk()))
	ok(t, e)
	for i, c := range []struct {
		l    []int64
		size int64
		want []api.Ext
	}{
		{nil, 100, nil},
		{[]int64{2, 3}, 0, nil},
		{[]int64{2, 3}, -1, nil},
		{[]int64{2, 3}, math.MinInt64, nil},
		{[]int64{2, 3}, 1, []api.Ext{{From: 12 * 512, To: 12*512 + 1}}},
		{[]int64{2, 3}, 1024, []api.Ext{{From: 12 * 512, To: 14 * 512}}},
		{[]int64{2, 3}, 1025, []api.Ext{{From: 12 * 512, To: 14*512 + 1}}},
		{[]int64{2, 3}, 2048, []api.Ext{{From: 12 * 512, To: 16 * 512}}},
		{[]int64{2, 3}, math.MaxInt64, []api.Ext{{From: 12 * 512, To: 16 * 512}}},
		{[]int64{3, 2}, 2048, []api.Ext{{From: 14 * 512, To: 16 * 512}, {From: 12 * 512, To: 14 * 512}}},
		{[]int64{3, 2}, 1025, []api.Ext{{From: 14 * 512, To: 16 * 512}, {From: 12 * 512, To: 12*512 + 1}}},
		{[]int64{5, 9, 6}, 2500, []api.Ext{{From: 18 * 512, To: 20 * 512}, {From: 26 * 512, To: 28 * 512}, {From: 20 * 512, To: 20*512 + 452}}},
		{[]int64{5, 6, 6, 7}, 9999, []api.Ext{{From: 18 * 512, To: 22 * 512}, {From: 20 * 512, To: 24 * 512}}},
	} {
		was := slices.Clone(c.l)
		if got := v.Runs(c.l, c.size); !slices.Equal(got, c.want) {
			t.Errorf("%d: %v, not %v", i, got, c.want)
		}
		if !slices.Equal(c.l, was) {
			t.Error("what was handed in is changed")
		}
	}
	r := rand.New(rand.NewSource(5))
	for range 2000 {
		var l []int64
		for range r.Intn(7) {
			l = append(l, 2+r.Int63n(8))
		}
		size := r.Int63n(8 * 1024)
		var want []int64
		for _, c := range l {
			want = append(want, places([]api.Ext{v.At(c)})...)
		}
		want = want[:min(size, int64(len(want)))]
		runs := v.Runs(l, size)
		if !slices.Equal(places(runs), want) {
			t.Fatalf("%v, %d: %v", l, size, runs)
		}
		for i, x := range runs {
			if x.To <= x.From || i > 0 && runs[i-1].To == x.From {
				t.Fatalf("%v, %d: %v", l, size, runs)
			}
		}
	}
}

// No volume, and volumes that Open didn't make: nothing panics, all ends.
func TestNoVolume(t *testing.T) {
	var none *fat.Volume
	marks := map[int64]int{}
	for _, first := range []int64{-1, 0, 2, 5} {
		if l, e := none.Chain(first, marks); e != api.ErrNil || len(l) > 0 {
			t.Error(l, e)
		}
		if l, e := none.Chain(first, nil); e != api.ErrNil || len(l) > 0 {
			t.Error(l, e)
		}
	}
	if len(marks) > 0 || len(none.Space()) > 0 || len(none.Runs([]int64{2, 3}, 100)) > 0 {
		t.Error("something of none")
	}
	most := fat.Boot{Each: math.MaxInt64, Ahead: math.MaxInt64, Tables: math.MaxInt64, Sectors: math.MaxInt64, Long: math.MaxInt64}
	for _, v := range []*fat.Volume{{}, {Boot: usual()}, {Next: []uint32{3, 0, 2, fat.Bad, math.MaxUint32}}, {Boot: most, Next: []uint32{3, 0, math.MaxUint32}}, {Boot: fat.Boot{Each: -1}, Next: []uint32{0, 0}}} {
		for first := int64(-1); first < 9; first++ {
			chained(t, v, first, marks)
		}
		v.Space()
		v.Runs([]int64{math.MinInt64, 0, 1, 2, 3, math.MaxInt64}, math.MaxInt64)
	}
}
