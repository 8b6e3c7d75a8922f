package resize_test

import (
	"bytes"
	"math/rand"
	"slices"
	"testing"

	"fettle/api"
	"fettle/ext"
	"fettle/extdir"
	"fettle/fat"
	"fettle/fatdir"
	"fettle/rawguest"
	"fettle/resize"
)

// all errors, and some that are none of the document's.
func allErrors() []api.Errno {
	return []api.Errno{api.ErrArg, api.ErrNil, api.ErrBig, api.ErrRange, api.ErrIO, api.ErrState, api.ErrMagic, api.ErrForm, api.ErrSum, api.ErrLoop, api.ErrCross, api.ErrFull, api.ErrName, api.ErrTwice, api.ErrSmall, api.ErrAlign, api.ErrLimit, api.ErrDepth, api.ErrNone, api.ErrCount, 99, -1}
}

// whyByWords: what Known must answer, if both trees have an error.
func whyByWords(first, second api.Errno) api.Errno {
	if first == api.ErrIO || second == api.ErrIO {
		return api.ErrIO
	}
	e := first
	if first == api.ErrMagic {
		e = second
	}
	if first == api.ErrRange && second != api.ErrMagic {
		e = second
	}
	return e
}

// unknown: Known answers an error, and nothing else.
func unknown(t *testing.T, what string, d api.Disk, want api.Errno) {
	t.Helper()
	if kind, paths, free, e := resize.Known(d); e != want || kind != resize.Unknown || len(paths) > 0 || len(free) > 0 {
		t.Errorf("%s: kind %d, error %d, not %d; %v %v", what, kind, e, want, paths, free)
	}
}

func TestKnownAny(t *testing.T) {
	for seed := range int64(40) {
		r := rand.New(rand.NewSource(seed))
		f, files := anyFat(r, seed)
		d := f.Bytes()
		paths, free := holds(t, "fat", d, resize.Fat, files)
		if want, space, e := fatdir.Tree(bare(d)); e != api.OK || !samePaths(paths, want) || !slices.Equal(free, space) || free.Bytes() != 512*f.Each*f.Free() {
			t.Error("fat", seed)
		}
		x, files := anyExt(r, seed)
		d = x.Bytes()
		paths, free = holds(t, "ext", d, resize.Ext, files)
		if want, space, e := extdir.Tree(bare(d)); e != api.OK || !samePaths(paths, want) || !slices.Equal(free, space) || free.Bytes() != 1024*int64(len(x.Left)) {
			t.Error("ext", seed)
		}
	}
}

// both: a partition that holds a volume of each kind: the one of groups is in what the
// other has ahead of its tables.
func both() ([]byte, []rawguest.File, []rawguest.File) {
	inner := []rawguest.File{{Name: "in", Data: pattern(2000, 1)}, {Name: "f", Folder: true}}
	outer := []rawguest.File{{Name: "OUT", Data: pattern(2000, 2)}, {Name: "TWO", Data: pattern(900, 3)}}
	x := rawguest.NewExt(rawguest.Ext{Blocks: 31, Per: 64, Each: 16, First: 11, Types: true}, make([]byte, 31*1024), func(int64) int64 { return 0 })
	d := longer(x.Hold(inner...).Bytes(), 126*512)
	f := rawguest.NewFat(rawguest.Fat{Each: 1, Ahead: 64, Tables: 1, Long: 1, Info: 1, Sectors: 126, Next: 2}, d)
	return f.Hold(outer...).Bytes(), outer, inner
}

// fault is something that is wrong of a volume, and the error that its tree has.
type fault struct {
	e    api.Errno
	make func(d []byte)
}

// faults: of each kind of volume on a partition that holds both.
func faults(d []byte) (first, second []fault) {
	byteAt := func(at int, v byte) func([]byte) { return func(d []byte) { d[at] ^= v } }
	number := func(at int, v int64) func([]byte) { return func(d []byte) { put32(d, at, v) } }
	root := 65*512 + int(get32(d, 44)-2)*512
	table := 64 * 512
	first = []fault{
		{api.ErrMagic, byteAt(82, 1)},
		{api.ErrMagic, byteAt(512, 1)},
		{api.ErrForm, byteAt(17, 1)},
		{api.ErrRange, number(32, 140)},
		{api.ErrRange, number(44, 1)},
		{api.ErrLimit, number(32, 5000)},
		{api.ErrCount, byteAt(512+488, 1)},
		{api.ErrCount, byteAt(root+29, 8)},
		{api.ErrLoop, number(table+4*int(get32(d, 44)), get32(d, 44))},
		{api.ErrCross, byteAt(root+32+26, byte(get16(d, root+26)^get16(d, root+32+26)))},
		{api.ErrName, func(d []byte) { copy(d[root:], "           ") }},
	}
	x, _ := ext.Open(bare(d))
	node, _ := x.Node(2)
	rows := int(1024*node.At[0] + 24) // behind "." and ".."
	second = []fault{
		{api.ErrMagic, byteAt(1024+56, 1)},
		{api.ErrForm, byteAt(1024+20, 1)},
		{api.ErrRange, number(1024+4, 64)},
		{api.ErrRange, number(rows, 17)},
		{api.ErrLimit, number(1024+4, 16384)},
		{api.ErrCount, byteAt(1024+12, 1)},
		{api.ErrCross, byteAt(2048+4, byte(x.Rows[0].Blocks^x.Rows[0].Inodes))},
		{api.ErrState, number(rows, 16)},
		{api.ErrLoop, number(rows, 2)},
		{api.ErrName, byteAt(rows+6, d[rows+6])},
	}
	return first, second
}

// TestKnownBoth: where both are right it is of the first kind; where one is wrong, of
// the other; where both are, the errors go before each other as they must.
func TestKnownBoth(t *testing.T) {
	d, outer, inner := both()
	holds(t, "both", d, resize.Fat, outer)
	first, second := faults(d)
	for i, a := range first {
		x := bytes.Clone(d)
		a.make(x)
		if _, _, e := fatdir.Tree(bare(x)); e != a.e {
			t.Fatalf("fault %d of the first: %d, not %d", i, e, a.e)
		}
		holds(t, "the first is wrong", x, resize.Ext, inner)
		for j, b := range second {
			y := bytes.Clone(d)
			b.make(y)
			if _, _, e := extdir.Tree(bare(y)); e != b.e {
				t.Fatalf("fault %d of the second: %d, not %d", j, e, b.e)
			}
			holds(t, "the second is wrong", y, resize.Fat, outer)
			a.make(y)
			unknown(t, "both are wrong", bare(y), whyByWords(a.e, b.e))
		}
	}
}

// TestKnownPairs: each pair of errors, of reads that the trees alone do.
func TestKnownPairs(t *testing.T) {
	d, outer, inner := both()
	reads := func(first, second api.Errno) *odd {
		return &odd{bare: d, answer: func(_ int, at, n int64) ([]byte, api.Errno, bool) {
			if at == 0 {
				return []byte{1}, first, first != api.OK
			}
			return []byte{1}, second, second != api.OK && at == 1024 && n == 1024
		}}
	}
	for _, a := range allErrors() {
		for _, b := range allErrors() {
			o := reads(a, b)
			unknown(t, "a pair", o, whyByWords(a, b))
			if a == api.ErrIO && o.reads != 1 {
				t.Error("behind the first ErrIO it is read on")
			}
		}
		if kind, paths, _, e := resize.Known(reads(a, api.OK)); a != api.ErrIO && (kind != resize.Ext || e != api.OK || len(paths) != len(inner)+1) {
			t.Error("the first one's error", a, kind, e)
		}
		if kind, paths, _, e := resize.Known(reads(api.OK, a)); kind != resize.Fat || e != api.OK || len(paths) != len(outer)+1 {
			t.Error("the second one's error", a, kind, e)
		}
	}
	unknown(t, "ErrIO, and then a right one", reads(api.ErrIO, api.OK), api.ErrIO)
}

// TestKnownRefused: each read may be refused: by the first tree, and by the second.
func TestKnownRefused(t *testing.T) {
	d, _, _ := both()
	spoilt := bytes.Clone(d)
	spoilt[17] = 1 // the first sector is read, and then the other tree
	for _, d := range [][]byte{d, spoilt} {
		none := &odd{bare: d, answer: func(int, int64, int64) ([]byte, api.Errno, bool) { return nil, 0, false }}
		_, _, _, e := resize.Known(none)
		ok(t, e)
		if none.reads < 4 {
			t.Fatal(none.reads)
		}
		for n := 1; n <= none.reads; n++ {
			unknown(t, "a refused read", &odd{bare: d, answer: func(read int, _, _ int64) ([]byte, api.Errno, bool) {
				return []byte{1}, api.ErrIO, read == n
			}}, api.ErrIO)
		}
	}
}

func TestKnownNone(t *testing.T) {
	unknown(t, "no disk", nil, api.ErrNil)
	for n := range 5000 {
		want := api.ErrMagic // of the second
		if n < 2048 {
			want = api.ErrRange
		}
		if n%100 == 0 || n%512 < 2 || n%512 > 510 {
			unknown(t, "noughts", bare(make([]byte, n)), want)
		}
	}
	made, e := fat.Make(64, 1)
	ok(t, e)
	unknown(t, "a partition that is short", bare(made[:63*512]), api.ErrRange) // the second has no sign
	unknown(t, "a partition that is very short", bare(made[:3*512]), api.ErrRange)
	made, e = ext.Make(64, 64, 16)
	ok(t, e)
	unknown(t, "a partition that is short", bare(made[:63*1024]), api.ErrRange)
}

// TestKnownAnyBytes: whatever the bytes, it ends, and says what the trees say.
func TestKnownAnyBytes(t *testing.T) {
	met := map[api.Errno]int{}
	for seed := range int64(600) {
		r := rand.New(rand.NewSource(seed))
		d, _, _ := both()
		for range 1 + r.Intn(6) {
			d[[]int{r.Intn(512), 512 + r.Intn(512), 1024 + r.Intn(120), 2048 + r.Intn(32), 3072 + r.Intn(9000), 64*512 + r.Intn(64), r.Intn(len(d))}[r.Intn(7)]] = byte(r.Intn(256))
		}
		paths, _, e := fatdir.Tree(bare(d))
		also, _, e2 := extdir.Tree(bare(d))
		kind, got, _, known := resize.Known(bare(d))
		met[known]++
		switch {
		case e == api.OK && (kind != resize.Fat || known != api.OK || !samePaths(got, paths)),
			e != api.OK && e2 == api.OK && (kind != resize.Ext || known != api.OK || !samePaths(got, also)),
			e != api.OK && e2 != api.OK && (kind != resize.Unknown || known != whyByWords(e, e2) || len(got) > 0):
			t.Fatal(seed, kind, known, e, e2)
		}
	}
	if len(met) < 4 {
		t.Error(met)
	}
}
