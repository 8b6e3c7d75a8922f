package gpt_test

import (
	"bytes"
	"encoding/binary"
	"hash/crc32"
	"math"
	"math/rand"
	"slices"
	"testing"

	"fettle/api"
	"fettle/gpt"
)

func TestEncodedIsParsed(t *testing.T) {
	r := rand.New(rand.NewSource(2))
	tables := []gpt.Table{usual(), crowd(0), crowd(1), crowd(32)}
	for range 1500 {
		tables = append(tables, rightTable(r))
	}
	for _, g := range tables {
		l, e := g.Encode()
		ok(t, e)
		d := pattern(int(512*g.Sectors), 7)
		put(d, l)
		x, e := looked(t, "encoded", d)
		if e != api.OK || !same(x, g) {
			t.Fatalf("%d: %+v, not %+v", e, x, g)
		}
		if l, e := gpt.Mend(bare(d)); e != api.OK || len(l) != 0 {
			t.Fatal("Mend of what is right", e, len(l))
		}
	}
}

func TestGreatestDisk(t *testing.T) {
	g := gpt.Table{Sectors: 32768, At: 2, First: 34, Last: 32734, Behind: 32735, List: make([]gpt.Entry, 128)}
	g.List[127] = entry(3, 34, 32734)
	d := laid(g)
	x, e := looked(t, "greatest", d)
	if e != api.OK || !same(x, g) {
		t.Error(e)
	}
	clear(first(d))
	mended(t, "greatest, spoilt", d, g)
	g.Sectors++
	wants(t, "greater", laid(g), api.ErrForm)
}

func TestSizes(t *testing.T) {
	for _, n := range []int{0, 1, 511, 512, 5 * 512, 6*512 - 1, 6*512 + 1, 64*512 - 1, 64*512 + 511} {
		wants(t, "size", make([]byte, n), api.ErrRange)
	}
	for n := 6; n < 20; n++ {
		wants(t, "noughts", make([]byte, 512*n), api.ErrMagic)
	}
	if x, e := gpt.Parse(nil); e != api.ErrNil || !same(x, gpt.Table{}) {
		t.Error(x, e)
	}
	if l, e := gpt.Mend(nil); e != api.ErrNil || len(l) != 0 {
		t.Error(l, e)
	}
	g := gpt.Table{Sectors: 6, At: 2, First: 3, Last: 3, Behind: 4, List: []gpt.Entry{entry(1, 3, 3)}}
	wants(t, "least", laid(g), api.OK)
	g = gpt.Table{Sectors: 5, At: 2, First: 3, Last: 2, Behind: 3, List: make([]gpt.Entry, 1)}
	wants(t, "less", laid(g), api.ErrRange)
}

// Every byte of both copies: what it is changed to is told, and mended.
func TestEveryByte(t *testing.T) {
	g := usual()
	d := laid(g)
	for _, p := range piecesByWords(g) {
		for at := p.At; at < p.At+int64(len(p.B)); at++ {
			was := d[at]
			for _, v := range []byte{was ^ 1, was ^ 128, was + 1, 0, 255} {
				d[at] = v
				_, e := looked(t, "a byte", d)
				list := p.At != 512 && p.At != 63*512
				behindList := list && at >= p.At+6*128 // noughts that fill a sector say nothing
				if (e == api.OK) != (v == was || behindList) {
					t.Fatalf("byte %d, %d: %d", at, v, e)
				}
				if e != api.OK {
					mended(t, "a byte", d, g)
				}
			}
			d[at] = was
		}
	}
}

// fault is what spoils a usual disk, and its error.
type fault struct {
	name  string
	want  api.Errno
	spoil func(d []byte)
}

func put32(at int, v uint32) func(b []byte) {
	return func(b []byte) { binary.LittleEndian.PutUint32(b[at:], v) }
}

func put64(at int, v uint64) func(b []byte) {
	return func(b []byte) { binary.LittleEndian.PutUint64(b[at:], v) }
}

// where tells which header is meant.
type where func(d []byte) []byte

// in: a header is spoilt, its sum is as it was. summed: and its sum made right again.
func in(w where, do func(b []byte)) func(d []byte) {
	return func(d []byte) { do(w(d)) }
}

func summed(w where, do func(b []byte)) func(d []byte) {
	return func(d []byte) {
		do(w(d))
		sumHead(w(d))
	}
}

func both(do func(b []byte)) func(d []byte) {
	return func(d []byte) {
		summed(first, do)(d)
		summed(second, do)(d)
	}
}

// listed: the entries are spoilt in both copies, and all sums made right again.
func listed(do func(l []byte)) func(d []byte) {
	return func(d []byte) {
		for _, at := range []int{3 * 512, 60 * 512} {
			do(d[at : at+6*128])
		}
		both(put32(88, crc32.ChecksumIEEE(d[3*512:3*512+6*128])))(d)
	}
}

// faults: in the order in which they are told.
func faults() []fault {
	var l []fault
	add := func(name string, want api.Errno, spoil func([]byte)) { l = append(l, fault{name, want, spoil}) }
	for _, w := range []where{first, second} {
		add("magic", api.ErrMagic, summed(w, func(b []byte) { b[7] = 't' }))
		add("version", api.ErrForm, summed(w, put32(8, 0x10001)))
		add("length", api.ErrForm, summed(w, put32(12, 93)))
		add("nought", api.ErrForm, summed(w, put32(20, 1)))
		add("no entry", api.ErrForm, summed(w, put32(80, 0)))
		add("many entries", api.ErrForm, summed(w, put32(80, 129)))
		add("very many entries", api.ErrForm, summed(w, put32(80, math.MaxUint32)))
		add("each", api.ErrForm, summed(w, put32(84, 256)))
		add("first nought", api.ErrForm, summed(w, func(b []byte) { b[92] = 1 }))
		add("last nought", api.ErrForm, summed(w, func(b []byte) { b[511] = 1 }))
		add("sum", api.ErrSum, in(w, func(b []byte) { b[16] ^= 1 }))
		add("another Id than the sum is of", api.ErrSum, in(w, func(b []byte) { b[56] ^= 1 }))
	}
	for i, w := range []where{first, second} {
		add("own", api.ErrForm, summed(w, put64(24, uint64(2-i))))
		add("other", api.ErrForm, summed(w, put64(32, uint64(2+60*i))))
		add("great own", api.ErrForm, summed(w, put64(24, math.MaxUint64)))
		add("count", api.ErrForm, summed(w, put32(80, 5)))
		add("the entries' sum", api.ErrForm, summed(w, func(b []byte) { b[88] ^= 1 }))
		add("First", api.ErrForm, summed(w, put64(40, 5)))
		add("Last", api.ErrForm, summed(w, put64(48, 59)))
		add("Id", api.ErrForm, summed(w, func(b []byte) { b[71] ^= 1 }))
	}
	for i, w := range []where{first, second} {
		add("entries behind the disk", api.ErrRange, summed(w, put64(72, 63)))
		add("entries far behind the disk", api.ErrRange, summed(w, put64(72, 1<<55))) // times 512 is 0
		add("other entries", api.ErrSum, func(d []byte) { d[[]int{3, 60}[i]*512] ^= 1 })
		add("other last entry", api.ErrSum, func(d []byte) { d[[]int{3, 60}[i]*512+6*128-1] ^= 1 })
		add("entries elsewhere", api.ErrSum, summed(w, put64(72, 62)))
	}
	add("At", api.ErrRange, func(d []byte) { // what stands in sector 0 is taken as four entries
		copy(d[60*512:], d[:512])
		both(put32(80, 4))(d)
		both(put32(88, crc32.ChecksumIEEE(d[:512])))(d)
		summed(first, put64(72, 0))(d)
	})
	add("First in the entries", api.ErrRange, both(put64(40, 4)))
	add("great First", api.ErrRange, both(put64(40, 64)))
	add("Last ahead of First", api.ErrRange, both(put64(48, 4)))
	add("Last behind Behind", api.ErrRange, both(put64(48, 60)))
	add("greatest First", api.ErrRange, func(d []byte) {
		summed(first, put64(40, math.MaxUint64))(d)
		summed(second, put64(40, 8388608))(d) // counts as the same
	})
	add("slot 0 is none", api.ErrForm, listed(func(l []byte) { l[16] = 1 }))
	add("slot 1's Last", api.ErrRange, listed(put64(128+40, 59)))
	add("slot 1's First", api.ErrRange, listed(put64(128+32, 5)))
	add("slot 2's great First", api.ErrRange, listed(put64(2*128+32, 1<<63)))
	add("slot 5 is none", api.ErrForm, listed(func(l []byte) { clear(l[5*128 : 5*128+16]) }))
	add("slot 5's Last ahead of its First", api.ErrRange, listed(put64(5*128+40, 6)))
	add("slot 5 crosses slot 1", api.ErrCross, listed(put64(5*128+40, 30)))
	add("slot 5 crosses slot 2", api.ErrCross, listed(put64(5*128+32, 6)))
	return l
}

func TestEachFault(t *testing.T) {
	for _, f := range faults() {
		d := laid(usual())
		f.spoil(d)
		wants(t, f.name, d, f.want)
	}
}

// Of two faults: Parse's and Mend's answers are the plain ones'. The other fault is
// laid first, as both may be in the same bytes.
func TestEachTwoFaults(t *testing.T) {
	l := faults()
	for i, f := range l {
		for j, g := range l {
			if i == j {
				continue
			}
			d := laid(usual())
			g.spoil(d)
			f.spoil(d)
			looked(t, f.name+", "+g.name, d)
		}
	}
}

// The magic, the form and the sum of a header, in this order; the second header's
// behind the first one's; what both say behind them.
func TestParseFirstError(t *testing.T) {
	d := laid(usual())
	steps := []struct {
		want api.Errno
		do   func()
	}{
		{api.ErrRange, func() { listed(put64(128+40, 59))(d) }},
		{api.ErrSum, func() { d[60*512] ^= 1 }},
		{api.ErrRange, func() { summed(second, put64(72, 63))(d) }},
		{api.ErrSum, func() { d[3*512] ^= 1 }},
		{api.ErrRange, func() { summed(first, put64(72, 1000000))(d) }},
		{api.ErrForm, func() { summed(first, func(b []byte) { b[56] ^= 1 })(d) }},
		{api.ErrSum, func() { second(d)[17] ^= 1 }},
		{api.ErrForm, func() { second(d)[100] ^= 1 }},
		{api.ErrMagic, func() { second(d)[0] ^= 1 }},
		{api.ErrSum, func() { first(d)[17] ^= 1 }},
		{api.ErrForm, func() { first(d)[100] ^= 1 }},
		{api.ErrMagic, func() { first(d)[0] ^= 1 }},
		{api.ErrRange, func() { d = d[:len(d)-1] }},
	}
	for i, s := range steps {
		s.do()
		_, e := looked(t, "step", d)
		if e != s.want {
			t.Errorf("step %d: %d, not %d", i, e, s.want)
		}
	}
}

func TestMendEachCopy(t *testing.T) {
	r := rand.New(rand.NewSource(31))
	for round := range 1500 {
		g := rightTable(r)
		rows := int64(len(g.List)+3) / 4
		for copyOf := range 2 {
			d := laid(g)
			head, list, length := 512*int64(1), 512*g.At, 128*int64(len(g.List))
			if copyOf == 1 {
				head, list = 512*(g.Sectors-1), 512*g.Behind
			}
			switch round % 4 {
			case 0: // all of it
				clear(d[head : head+512])
				clear(d[list : list+512*rows])
				d[list] = 77
			case 1: // a byte of the header
				d[head+r.Int63n(512)] ^= byte(1 + r.Intn(255))
			case 2: // a byte of the entries
				d[list+r.Int63n(length)] ^= byte(1 + r.Intn(255))
			case 3: // any bytes
				copy(d[head:head+512], pattern(512, int64(round)))
				copy(d[list:list+512*rows], pattern(int(512*rows), int64(round)))
			}
			looked(t, "spoilt", d)
			mended(t, "spoilt", d, g)
		}
	}
}

// Where the copy is put: behind the first table just ahead of the last sector, of the
// second one at sector 2.
func TestMendPutsTheCopy(t *testing.T) {
	g := usual()
	g.At, g.First = 4, 6
	g.Behind = 59
	ok(t, g.Check())
	d := laid(g)
	clear(second(d))
	l, e := gpt.Mend(bare(d))
	ok(t, e)
	want := clone(g)
	want.Behind = 61
	if !samePieces(l, piecesByWords(want)) {
		t.Error("the first table's copy")
	}
	d = laid(g)
	clear(first(d))
	l, e = gpt.Mend(bare(d))
	ok(t, e)
	want = clone(g)
	want.At = 2
	if !samePieces(l, piecesByWords(want)) {
		t.Error("the second table's copy")
	}
}

// Two tables that are right alone, but don't say the same: the first counts.
func TestMendTwoTables(t *testing.T) {
	g, h := usual(), usual()
	h.List[1].Last--
	h.Id[3]++
	pieces := piecesByWords(h)
	d := laid(g)
	put(d, pieces[2:])
	wants(t, "two", d, api.ErrForm)
	mended(t, "two", d, g)
	d = laid(g)
	put(d, pieces[:2])
	wants(t, "two", d, api.ErrForm)
	mended(t, "two", d, h)
}

// Both spoilt: the error of the first table alone, and nothing else.
func TestMendBothSpoilt(t *testing.T) {
	for _, a := range spoils(first, 3) {
		for _, b := range spoils(second, 60) {
			d := laid(usual())
			a.spoil(d)
			b.spoil(d)
			looked(t, a.name+", "+b.name, d)
			if l, e := gpt.Mend(bare(d)); e != a.want || len(l) != 0 {
				t.Errorf("%s, %s: %d, %d pieces", a.name, b.name, e, len(l))
			}
		}
		d := laid(usual())
		a.spoil(d)
		mended(t, a.name, d, usual())
	}
	for _, b := range spoils(second, 60) {
		d := laid(usual())
		b.spoil(d)
		mended(t, b.name, d, usual())
	}
}

// spoils: of one header and its entries.
func spoils(w where, list int) []fault {
	return []fault{
		{"magic", api.ErrMagic, in(w, func(b []byte) { b[0] = 0 })},
		{"form", api.ErrForm, summed(w, put32(8, 0))},
		{"sum", api.ErrSum, in(w, func(b []byte) { b[50] ^= 1 })},
		{"own", api.ErrForm, summed(w, put64(24, 7))},
		{"other", api.ErrForm, summed(w, put64(32, 7))},
		{"entries behind the disk", api.ErrRange, summed(w, put64(72, 63))},
		{"the entries' sum", api.ErrSum, summed(w, put32(88, 1))},
		{"an entry", api.ErrSum, func(d []byte) { d[512*list+130] ^= 1 }},
		{"Check", api.ErrRange, summed(w, put64(48, 57))},
		{"no room", api.ErrRange, summed(w, put64(40, 64))},
		{"an entry that is none", api.ErrForm, func(d []byte) {
			d[512*list+127] = 1
			summed(w, put32(88, crc32.ChecksumIEEE(d[512*list:512*list+6*128])))(d)
		}},
		{"two that cross", api.ErrCross, func(d []byte) {
			d[512*list+5*128+32] = 6
			summed(w, put32(88, crc32.ChecksumIEEE(d[512*list:512*list+6*128])))(d)
		}},
	}
}

// A table whose copy stands where it may not, both being right alone.
func TestMendPlaces(t *testing.T) {
	for at := range uint64(64) {
		for _, w := range []where{first, second} {
			d := laid(usual())
			list := listBytes(usual().List)
			if at == 1 || at >= 62 {
				continue
			}
			copy(d[512*at:], list)
			copy(d[512*3:], list)
			copy(d[512*60:], list)
			summed(w, put64(72, at))(d)
			if _, e := looked(t, "entries elsewhere", d); e != api.OK && at > 1 {
				if l, e := gpt.Mend(bare(d)); e != api.OK || len(l) != 4 {
					t.Error(at, e)
				}
			}
		}
	}
}

func TestAnyDisks(t *testing.T) {
	r := rand.New(rand.NewSource(77))
	met := map[api.Errno]int{}
	for range 20000 {
		g := anyTable(r)
		if g.Sectors < 3 || g.At < 0 || g.Behind < 0 {
			continue
		}
		size := 512 * g.Sectors
		d := make([]byte, size+512*40)
		put(d, piecesByWords(g))
		d = d[:size]
		if g.Sectors >= 6 {
			spoilAny(r, d)
		}
		_, e := looked(t, "any", d)
		met[e]++
	}
	for _, e := range []api.Errno{api.OK, api.ErrMagic, api.ErrForm, api.ErrSum, api.ErrRange, api.ErrCross} {
		if met[e] < 50 {
			t.Error(met)
		}
	}
}

// spoilAny: a few bytes are others; mostly the headers' sums are made right again.
func spoilAny(r *rand.Rand, d []byte) {
	for range r.Intn(3) {
		w := []where{first, second}[r.Intn(2)]
		switch r.Intn(4) {
		case 0:
			w(d)[r.Intn(100)] = byte(r.Intn(256))
		case 1:
			w(d)[24+8*r.Intn(8)] = byte(r.Intn(64))
		case 2:
			d[1024+r.Intn(len(d)-1024)]++
		}
		if r.Intn(4) > 0 {
			sumHead(w(d))
		}
	}
}

func TestAnyBytes(t *testing.T) {
	for seed := range 2000 {
		d := pattern(512*(6+seed%9), int64(seed))
		looked(t, "any bytes", d)
		for _, w := range []where{first, second} {
			b := w(d)
			copy(b, headBytes(usual(), 1, 1, 1, 1)[:24])
			copy(b[84:], []byte{128, 0, 0, 0})
			put32(80, uint32(seed%140))(b)
			clear(b[92:])
			sumHead(b)
		}
		looked(t, "any bytes in headers", d)
	}
}

// A disk's error ends the call: each place that is read, refused by itself.
func TestRefused(t *testing.T) {
	g := usual()
	places := []int64{1, 63, 3, 60}
	refusing := func(d []byte, sector int64, e api.Errno) odd {
		return odd{bare: d, answer: func(at, n int64) ([]byte, api.Errno, bool) {
			return nil, e, at <= 512*sector && at+n > 512*sector
		}}
	}
	for _, sector := range places {
		d := laid(g)
		for _, e := range []api.Errno{api.ErrIO, api.ErrState} {
			if x, got := gpt.Parse(refusing(d, sector, e)); got != e || !same(x, gpt.Table{}) {
				t.Error(sector, e, x, got)
			}
		}
		if l, e := gpt.Mend(refusing(d, sector, api.ErrIO)); e != api.ErrIO || len(l) != 0 {
			t.Error(sector, e, len(l))
		}
	}
	// What isn't needed isn't read: an error ahead of it is told.
	d := laid(g)
	clear(first(d))
	if _, e := gpt.Parse(refusing(d, 63, api.ErrIO)); e != api.ErrMagic {
		t.Error(e)
	}
	for _, sector := range []int64{1, 63, 60} { // the first isn't right: the second one is asked for
		if l, e := gpt.Mend(refusing(d, sector, api.ErrIO)); e != api.ErrIO || len(l) != 0 {
			t.Error(sector, e)
		}
	}
	clear(second(d))
	if l, e := gpt.Mend(refusing(d, 63, api.ErrIO)); e != api.ErrIO || len(l) != 0 {
		t.Error(e)
	}
	// Another error than ErrIO is that of its table alone.
	d = laid(g)
	l, e := gpt.Mend(refusing(d, 1, api.ErrState))
	want, _ := aloneByWords(d, true)
	if e != api.OK || !samePieces(l, piecesByWords(want)) {
		t.Error(e, len(l))
	}
	clear(second(d))
	if l, e := gpt.Mend(refusing(d, 1, api.ErrState)); e != api.ErrState || len(l) != 0 {
		t.Error(e, len(l))
	}
}

// Mend, refused at the n-th read: ErrIO, or what it is without.
func TestMendRefused(t *testing.T) {
	d := laid(usual())
	clear(second(d))
	want, e := gpt.Mend(bare(d))
	ok(t, e)
	refused := 0
	for last := range 10 {
		read := 0
		l, e := gpt.Mend(odd{bare: d, answer: func(at, n int64) ([]byte, api.Errno, bool) {
			read++
			return nil, api.ErrIO, read > last
		}})
		switch {
		case e == api.ErrIO && len(l) == 0:
			refused++
		case e != api.OK || !samePieces(l, want):
			t.Error(last, e)
		}
	}
	if refused == 0 || refused == 10 {
		t.Error(refused)
	}
}

// A disk that answers other bytes than it was asked for, or tells a wrong size.
func TestOddDisks(t *testing.T) {
	for _, more := range []int64{-512, -511, -1, 1, 512} {
		for _, sector := range []int64{1, 63, 3, 60} {
			d := laid(usual())
			o := odd{bare: d, answer: func(at, n int64) ([]byte, api.Errno, bool) {
				b := make([]byte, max(0, n+more))
				copy(b, d[at:])
				return b, api.OK, at == 512*sector
			}}
			if x, e := gpt.Parse(o); e != api.ErrRange || !same(x, gpt.Table{}) {
				t.Error(more, sector, e)
			}
			gpt.Mend(o)
		}
	}
	for _, size := range []int64{math.MinInt64, -512 * 64, -1, 0, 5 * 512, math.MaxInt64} {
		if _, e := gpt.Parse(sized{bare(laid(usual())), size}); e != api.ErrRange {
			t.Error(size, e)
		}
		if _, e := gpt.Mend(sized{bare(laid(usual())), size}); e != api.ErrRange {
			t.Error(size, e)
		}
	}
}

// sized is a disk that tells another size.
type sized struct {
	api.Disk
	size int64
}

func (s sized) Size() int64 { return s.size }

// Disks far beyond what a table may have.
func TestVeryGreatDisks(t *testing.T) {
	for _, sectors := range []int64{32769, 8388608, 8388609, 8388610, 1 << 40, math.MaxInt64 / 512} {
		g := usual()
		g.Sectors = sectors
		l := piecesByWords(g)
		d := sized{odd{answer: func(at, n int64) ([]byte, api.Errno, bool) {
			for _, p := range l {
				if p.At == at {
					return p.B[:n], api.OK, true
				}
			}
			return nil, api.ErrIO, true
		}}, 512 * sectors}
		if x, e := gpt.Parse(d); e != api.ErrForm || !same(x, gpt.Table{}) {
			t.Error(sectors, e)
		}
		if l, e := gpt.Mend(d); e != api.ErrForm || len(l) != 0 {
			t.Error(sectors, e)
		}
	}
}

func TestAnswersAreNew(t *testing.T) {
	d := laid(usual())
	x, e := gpt.Parse(bare(d))
	ok(t, e)
	spoilt := bytes.Clone(d)
	clear(first(spoilt))
	l, e := gpt.Mend(bare(spoilt))
	ok(t, e)
	want, _ := mendByWords(spoilt)
	clear(d)
	clear(spoilt)
	if !same(x, usual()) || !samePieces(l, want) {
		t.Error("an answer shares the disk's memory")
	}
	y := clone(x)
	y.List[0].First = 5
	if slices.Equal(x.List, y.List) {
		t.Error("entries")
	}
}
