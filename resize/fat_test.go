package resize_test

import (
	"bytes"
	"math/rand"
	"slices"
	"testing"

	"fettle/api"
	"fettle/fat"
	"fettle/rawguest"
	"fettle/resize"
)

// TestExample: the document's.
func TestExample(t *testing.T) {
	d, e := fat.Make(64, 1)
	ok(t, e)
	l, e := fatTo(t, "made", d, 48)
	ok(t, e)
	v, e := fat.Open(bare(written(t, d, l)))
	if e != api.OK || v.Sectors != 48 || v.Counts != (fat.Counts{Free: 41, Next: 3}) {
		t.Error(v, e)
	}
	if !slices.Equal(places(l), []string{"0+512", "1024+512", "512+512"}) {
		t.Error(places(l))
	}
}

// fatIs: a volume is opened, of so many sectors, all else as it was; what was there of
// it is as it was, what is new is free; and it holds the same files at the same places.
// (It had so many sectors at least: what the counts say of those beyond is gone.)
func fatIs(t *testing.T, what string, was, now []byte, sectors, least int64, files []rawguest.File) {
	t.Helper()
	a, e := fat.Open(bare(was))
	ok(t, e)
	b, e := fat.Open(bare(now))
	if e != api.OK {
		t.Fatalf("%s: to %d sectors: error %d", what, sectors, e)
	}
	boot := a.Boot
	boot.Sectors = sectors
	both := min(len(a.Next), len(b.Next))
	if b.Boot != boot || !slices.Equal(a.Next[:both], b.Next[:both]) {
		t.Fatalf("%s: %+v, not %+v; or another table", what, b.Boot, boot)
	}
	for _, next := range slices.Concat(a.Next[both:], b.Next[both:]) {
		if next != 0 {
			t.Fatalf("%s: what came, or went, isn't free", what)
		}
	}
	next := a.Counts.Next
	if boot.Sectors = min(sectors, least); next > boot.Clusters()+1 {
		next = fat.Unknown
	}
	if (b.Counts.Free == fat.Unknown) != (a.Counts.Free == fat.Unknown) || b.Counts.Next != next {
		t.Fatalf("%s: %+v, not as %+v", what, b.Counts, a.Counts)
	}
	ahead, _ := holds(t, what, was, resize.Fat, files)
	behind, free := holds(t, what, now, resize.Fat, files)
	if !samePaths(ahead, behind) || !slices.Equal(free, b.Space()) {
		t.Fatalf("%s: other places", what)
	}
}

// fatSweep: a volume is made of each size, and then of the old one again. How many sizes it
// can have.
func fatSweep(t *testing.T, what string, d []byte, files []rawguest.File, sizes []int64) (can int) {
	t.Helper()
	old := get32(d, 32)
	for _, sectors := range sizes {
		l, e := fatTo(t, what, d, sectors)
		if e != api.OK {
			if len(l) > 0 {
				t.Fatalf("%s: pieces beside error %d", what, e)
			}
			continue
		}
		can++
		whole := longer(d, 512*sectors) // as long as the volume is then, no longer
		now := written(t, whole, l)
		fatIs(t, what, d, now, sectors, sectors, files)
		on := longer(now, max(512*old, 512*sectors))
		back, e := fatTo(t, what, on, old)
		ok(t, e)
		again := written(t, on, back)
		fatIs(t, what, d, again, old, sectors, files)
		a, _ := fat.Open(bare(d))
		b, _ := fat.Open(bare(again))
		if !slices.Equal(a.Next, b.Next) || a.Counts.Free != b.Counts.Free {
			t.Fatalf("%s: to %d sectors and back: not what it was", what, sectors)
		}
	}
	return can
}

// upTo: all numbers from one on, up to another.
func upTo(from, to int64) (l []int64) {
	for n := from; n < to; n++ {
		l = append(l, n)
	}
	return l
}

// TestFatEachSize: volumes with one table and with two, with a copy of the first sector
// and without, with clusters of one sector and of eight, with counts that are known and not.
func TestFatEachSize(t *testing.T) {
	t.Parallel()
	for seed, c := range []struct {
		shape    rawguest.Fat
		clusters int64
	}{
		{rawguest.Fat{Each: 1, Ahead: 2, Tables: 1, Long: 1, Info: 1, Next: 5}, 40},
		{rawguest.Fat{Each: 1, Ahead: 4, Tables: 2, Long: 3, Info: 3, Copy: 1, Next: 120}, 120},
		{rawguest.Fat{Each: 2, Ahead: 32, Tables: 2, Long: 2, Info: 1, Copy: 6, Vague: true, Next: 1}, 60},
		{rawguest.Fat{Each: 8, Ahead: 64, Tables: 1, Long: 1, Info: 63, Copy: 62, Next: 0xFFFFFFFF}, 20},
		{rawguest.Fat{Each: 4, Ahead: 3, Tables: 2, Long: 2, Info: 1, Copy: 2, Next: 0}, 126},
	} {
		f := c.shape
		f.Sectors = f.Ahead + f.Tables*f.Long + f.Each*c.clusters + int64(seed)%f.Each
		files := []rawguest.File{
			{Name: "A.X", Data: pattern(3000, 1)},
			{Name: "B", Folder: true, Inside: []rawguest.File{{Name: "C.TXT", Data: pattern(700, 2)}}},
		}
		v := rawguest.NewFat(f, pattern(int(512*f.Sectors)+100*seed, int64(seed)))
		slices.Reverse(v.Left[:c.clusters*2/3])
		d := v.Hold(files...).Bytes()
		most := f.Ahead + f.Tables*f.Long + f.Each*(128*f.Long-2) + f.Each - 1
		can := fatSweep(t, "each size", d, files, upTo(-3, most+20))
		used := int64(0)
		for i, next := range v.Numbers {
			if next != 0 {
				used = int64(i) + 1
			}
		}
		if least := f.Ahead + f.Tables*f.Long + f.Each*used; int64(can) != most-least+1 {
			t.Errorf("volume %d: it can have %d sizes, not those from %d to %d", seed, can, least, most)
		}
	}
}

func TestFatAny(t *testing.T) {
	t.Parallel()
	can := 0
	for seed := range int64(150) {
		r := rand.New(rand.NewSource(seed))
		f, files := anyFat(r, seed)
		d := f.Bytes()
		data := f.Ahead + f.Tables*f.Long
		most := data + f.Each*(128*f.Long-2)
		sizes := []int64{f.Sectors - 1, f.Sectors, f.Sectors + 1, f.Sectors + f.Each, f.Sectors - f.Each, data, data + f.Each, most, most + f.Each - 1, most + f.Each, data + f.Each*(f.Root-1), data + f.Each*(f.Root-1) - 1}
		for range 12 {
			sizes = append(sizes, r.Int63n(f.Sectors*2), f.Sectors+r.Int63n(100)-50)
		}
		for i := len(f.Numbers) - 1; i > 0; i-- {
			if f.Numbers[i] != 0 { // the last cluster in use, and one less
				sizes = append(sizes, data+f.Each*int64(i+1), data+f.Each*int64(i+1)-1)
				break
			}
		}
		can += fatSweep(t, "any volume", d, files, append(sizes, extremes...))
	}
	if can < 1000 {
		t.Error("too few that can be:", can)
	}
}

// TestFatMade: of a volume that was made each byte is what it was, when it has its old
// size again.
func TestFatMade(t *testing.T) {
	for each := int64(1); each <= 8; each *= 2 {
		d, e := fat.Make(200, each)
		ok(t, e)
		for sectors := 8 + 2*each; sectors < 230; sectors++ { // so that Next isn't beyond
			l, e := fatTo(t, "made", d, sectors)
			if e == api.ErrLimit {
				continue
			}
			ok(t, e)
			size := 512 * max(sectors, 200)
			there := append(bytes.Clone(d), make([]byte, size-200*512)...)
			now := written(t, there, l)
			l, e = fatTo(t, "made, and another size", now, 200)
			ok(t, e)
			if !bytes.Equal(written(t, now, l), there) {
				t.Error(each, sectors, "not what it was")
			}
		}
	}
}

// TestFatPlaces: where the tables' sectors are, of clusters whose numbers are in more
// than one sector, each in both tables.
func TestFatPlaces(t *testing.T) {
	f := rawguest.Fat{Each: 1, Ahead: 5, Tables: 2, Long: 4, Info: 2, Copy: 4, Next: 600}
	for c, want := range map[[2]int64][]string{
		{20, 20}:   nil,
		{20, 19}:   nil,
		{20, 21}:   {"2560+512", "4608+512"},
		{20, 126}:  {"2560+512", "4608+512"},
		{20, 127}:  {"2560+512", "4608+512", "3072+512", "5120+512"},
		{125, 126}: {"2560+512", "4608+512"},
		{126, 127}: {"3072+512", "5120+512"},
		{126, 382}: {"3072+512", "5120+512", "3584+512", "5632+512"},
		{254, 383}: {"3584+512", "5632+512", "4096+512", "6144+512"},
		{20, 510}:  {"2560+512", "4608+512", "3072+512", "5120+512", "3584+512", "5632+512", "4096+512", "6144+512"},
	} {
		f.Sectors = 13 + c[0]
		d := rawguest.NewFat(f, pattern(int(512*f.Sectors), 1)).Hold().Bytes()
		l, e := fatTo(t, "places", d, 13+c[1])
		ok(t, e)
		if got := places(l); !slices.Equal(got, append([]string{"0+512", "2048+512", "1024+512"}, want...)) {
			t.Error(c, got)
		}
		if v := get32(l[2].B, 492); v != 0xFFFFFFFF {
			t.Error("a Next beyond", c, v)
		}
	}
}

// TestFatNext: the Next of the counts, at the edge of the new size.
func TestFatNext(t *testing.T) {
	for next, want := range map[int64]int64{0: 0, 1: 1, 2: 2, 30: 30, 31: 31, 32: 0xFFFFFFFF, 33: 0xFFFFFFFF, 50: 0xFFFFFFFF, 0xFFFFFFFE: 0xFFFFFFFF, 0xFFFFFFFF: 0xFFFFFFFF} {
		f := rawguest.Fat{Each: 1, Ahead: 2, Tables: 1, Long: 1, Sectors: 63, Info: 1, Next: next}
		d := rawguest.NewFat(f, pattern(63*512, 1)).Hold().Bytes()
		l, e := fatTo(t, "next", d, 33) // clusters 2 to 31
		ok(t, e)
		if len(l) != 2 || get32(l[1].B, 492) != want || get32(l[1].B, 488) != 29 {
			t.Error(next, len(l), get32(l[1].B, 492), get32(l[1].B, 488))
		}
	}
}

// fatFails: FatTo answers an error, and no piece.
func fatFails(t *testing.T, what string, d []byte, sectors int64, want api.Errno) {
	t.Helper()
	if l, e := fatTo(t, what, d, sectors); e != want || len(l) > 0 {
		t.Errorf("%s: to %d sectors: error %d, not %d; %d pieces", what, sectors, e, want, len(l))
	}
}

// TestFatErrors: each error, at its edges.
func TestFatErrors(t *testing.T) {
	f := rawguest.Fat{Each: 2, Ahead: 4, Tables: 2, Long: 1, Sectors: 106, Info: 1, Copy: 2, Next: 2} // Data 6, 50 clusters
	v := rawguest.NewFat(f, make([]byte, 106*512))
	v.Left = append([]int64{30, 31, 40}, v.Left...)
	v.Hold() // the root is cluster 30
	d := v.Bytes()
	for sectors, want := range map[int64]api.Errno{0: api.ErrSmall, -1: api.ErrSmall, 5: api.ErrSmall, 6: api.ErrSmall, 7: api.ErrSmall,
		8: api.ErrSmall, 63: api.ErrSmall, 64: api.OK, 65: api.OK, // the root is beyond, or it is the last
		105: api.OK, 106: api.OK, 107: api.OK, 258: api.OK, 259: api.OK, 260: api.ErrLimit, 32768: api.ErrLimit, 32769: api.ErrLimit} {
		if l, e := fatTo(t, "root", d, sectors); e != want || (e == api.OK) != (len(l) > 0) {
			t.Errorf("to %d sectors: error %d, not %d; %d pieces", sectors, e, want, len(l))
		}
	}
	for _, next := range []uint32{1, 2, 40, 0x0FFFFFF6, 0x0FFFFFF7, 0x0FFFFFF8, 0x0FFFFFFF} {
		v.Numbers[38] = next // of cluster 40
		d := v.Bytes()
		fatFails(t, "a cluster beyond", d, 83, api.ErrSmall)
		fatFails(t, "a cluster beyond, and the root", d, 30, api.ErrSmall)
		if l, e := fatTo(t, "the last one", d, 84); e != api.OK || len(l) != 3 {
			t.Error(next, e)
		}
	}
	// four bits of a number say nothing
	v.Numbers[38] = 0
	d = v.Bytes()
	for _, at := range []int{4*512 + 40*4 + 3, 5*512 + 40*4 + 3} {
		d[at] = 0xF0
	}
	if l, e := fatTo(t, "it is free", d, 83); e != api.OK || len(l) != 3 {
		t.Error(e)
	}
	for _, sectors := range extremes {
		want := api.ErrSmall
		if sectors > 0 {
			want = api.ErrLimit
		}
		fatFails(t, "an extreme", d, sectors, want)
	}
}

// TestFatMost: the most sectors that there may be, of tables with room for more.
func TestFatMost(t *testing.T) {
	f := rawguest.Fat{Each: 8, Ahead: 4, Tables: 1, Long: 40, Sectors: 200, Info: 1, Next: 2}
	d := rawguest.NewFat(f, make([]byte, 200*512)).Hold().Bytes()
	l, e := fatTo(t, "most", d, 32768)
	ok(t, e)
	fatIs(t, "most", d, written(t, longer(d, 32768*512), l), 32768, 32768, nil)
	fatFails(t, "one more", d, 32769, api.ErrLimit)
}

// TestFatOpen: a partition without a right volume: the layer's error below, whatever is
// asked for.
func TestFatOpen(t *testing.T) {
	good, e := fat.Make(64, 1)
	ok(t, e)
	spoil := func(at int, v byte) []byte {
		d := bytes.Clone(good)
		d[at] ^= v
		return d
	}
	for what, c := range map[string]struct {
		d    []byte
		want api.Errno
	}{
		"nothing":                   {nil, api.ErrRange},
		"noughts":                   {make([]byte, 4096), api.ErrMagic},
		"a field":                   {spoil(17, 1), api.ErrForm},
		"a copy":                    {spoil(1024+3, 1), api.ErrForm},
		"a partition that is short": {good[:63*512], api.ErrRange},
		"no counts":                 {spoil(512, 1), api.ErrMagic},
		"another count":             {spoil(512+488, 1), api.ErrCount},
		"a table":                   {spoil(5*512+8, 1), api.ErrForm},
	} {
		for _, sectors := range append([]int64{0, 1, 7, 48, 64, 80, 200}, extremes...) {
			fatFails(t, what, c.d, sectors, c.want)
		}
	}
	for _, sectors := range append([]int64{0, 48}, extremes...) {
		if l, e := resize.FatTo(nil, sectors); e != api.ErrNil || len(l) > 0 {
			t.Error("no disk:", e)
		}
	}
}
