package fat_test

import (
	"bytes"
	"encoding/binary"
	"math/rand"
	"slices"
	"testing"

	"fettle/api"
	"fettle/extent"
	"fettle/fat"
)

// The signatures that the document lists; a volume has its boot's calls.
var (
	_ func(fat.Boot) int64                                         = fat.Boot.Data
	_ func(fat.Boot) int64                                         = fat.Boot.Clusters
	_ func(fat.Boot) int64                                         = fat.Boot.Unit
	_ func(fat.Boot, int64) api.Ext                                = fat.Boot.At
	_ func(fat.Boot) api.Errno                                     = fat.Boot.Check
	_ func([]byte) (fat.Boot, api.Errno)                           = fat.Parse
	_ func(fat.Boot, []byte) api.Errno                             = fat.Boot.Put
	_ func([]byte) (fat.Counts, api.Errno)                         = fat.ParseCounts
	_ func(fat.Counts) ([]byte, api.Errno)                         = fat.PutCounts
	_ func(api.Disk) (*fat.Volume, api.Errno)                      = fat.Open
	_ func(*fat.Volume, int64, map[int64]int) ([]int64, api.Errno) = (*fat.Volume).Chain
	_ func(*fat.Volume) extent.Set                                 = (*fat.Volume).Space
	_ func(*fat.Volume, []int64, int64) []api.Ext                  = (*fat.Volume).Runs
	_ func(sectors, each int64) ([]byte, api.Errno)                = fat.Make
	_ func(*fat.Volume) int64                                      = (*fat.Volume).Clusters
	_ func(*fat.Volume, int64) api.Ext                             = (*fat.Volume).At
	_                                                              = fat.Volume{Boot: fat.Boot{}, Next: []uint32{}, Counts: fat.Counts{Free: int64(1), Next: int64(1)}}
	_ [1]bool                                                      = [fat.Bad - 0x0FFFFFF6]bool{}
	_ [1]bool                                                      = [fat.End - 0x0FFFFFF7]bool{}
	_ [1]bool                                                      = [fat.Unknown - 0xFFFFFFFE]bool{}
	_ [1]bool                                                      = [fat.Free + 1]bool{}
)

// bare is a disk that hands out its own bytes, with all room behind them: who
// writes into them is found out.
type bare []byte

func (m bare) Size() int64 { return int64(len(m)) }

func (m bare) Read(at, n int64) ([]byte, api.Errno) {
	if at < 0 || n < 0 || n > int64(len(m))-at {
		return nil, api.ErrRange
	}
	return m[at : at+n], api.OK
}

// odd is a disk that answers as it is told, and counts its reads.
type odd struct {
	bare
	reads  int
	answer func(read int, at, n int64) ([]byte, api.Errno, bool)
}

func (o *odd) Read(at, n int64) ([]byte, api.Errno) {
	o.reads++
	if b, e, told := o.answer(o.reads, at, n); told {
		return b, e
	}
	return o.bare.Read(at, n)
}

// refusing: a disk whose n-th read is refused, with bytes beside the error.
func refusing(d []byte, n int, e api.Errno) *odd {
	return &odd{bare: d, answer: func(read int, _, _ int64) ([]byte, api.Errno, bool) {
		return []byte{1, 2, 3}, e, read == n
	}}
}

func ok(t *testing.T, e api.Errno) {
	t.Helper()
	if e != api.OK {
		t.Fatal("error", e)
	}
}

func pattern(n int, seed int64) []byte {
	b := make([]byte, n)
	rand.New(rand.NewSource(seed)).Read(b)
	return b
}

func put16(b []byte, at int, v int64) { binary.LittleEndian.PutUint16(b[at:], uint16(v)) }
func put32(b []byte, at int, v int64) { binary.LittleEndian.PutUint32(b[at:], uint32(v)) }
func get16(b []byte, at int) int64    { return int64(binary.LittleEndian.Uint16(b[at:])) }
func get32(b []byte, at int) int64    { return int64(binary.LittleEndian.Uint32(b[at:])) }

// clusters, check: the chapter once more, of fields that are no greater than those
// of a sector.
func clusters(b fat.Boot) int64 {
	n := int64(0)
	for left := b.Sectors - b.Ahead - b.Tables*b.Long - b.Each; left >= 0; left -= b.Each {
		n++
	}
	return n
}

func check(b fat.Boot) api.Errno {
	for _, wrong := range []bool{
		!slices.Contains([]int64{1, 2, 4, 8}, b.Each),
		!slices.Contains([]int64{1, 2}, b.Tables),
		b.Sectors < 1 || b.Sectors > 32768,
		b.Long < 1 || b.Long > b.Sectors,
		b.Ahead < 2 || b.Ahead > 64,
		b.Info < 1 || b.Info > b.Ahead-1,
		b.Copy < 0 || b.Copy > b.Ahead-1 || b.Copy == b.Info,
	} {
		if wrong {
			return api.ErrForm
		}
	}
	switch n := clusters(b); {
	case b.Ahead+b.Tables*b.Long >= b.Sectors || n == 0:
		return api.ErrRange
	case 4*(n+2) > 512*b.Long:
		return api.ErrLimit
	case b.Root < 2 || b.Root >= 2+n:
		return api.ErrRange
	}
	return api.OK
}

// lay: a boot's fields are written into a first sector, right or not, by hand.
func lay(b fat.Boot, s []byte) {
	put16(s, 11, 512)
	s[13] = byte(b.Each)
	put16(s, 14, b.Ahead)
	s[16] = byte(b.Tables)
	for _, at := range []int{17, 19, 22, 40, 42} {
		put16(s, at, 0)
	}
	put32(s, 32, b.Sectors)
	put32(s, 36, b.Long)
	put32(s, 44, b.Root)
	put16(s, 48, b.Info)
	put16(s, 50, b.Copy)
	copy(s[82:], "FAT32   ")
	s[510], s[511] = 0x55, 0xAA
}

// layCounts: the sector with the counts, by hand; all else is any bytes.
func layCounts(s []byte, free, next int64) {
	put32(s, 0, 0x41615252)
	put32(s, 484, 0x61417272)
	put32(s, 488, free)
	put32(s, 492, next)
	put32(s, 508, 0xAA550000)
}

// parseByWords: what Parse must answer.
func parseByWords(s []byte) (fat.Boot, api.Errno) {
	if len(s) != 512 {
		return fat.Boot{}, api.ErrRange
	}
	if string(s[82:90]) != "FAT32   " || s[510] != 0x55 || s[511] != 0xAA {
		return fat.Boot{}, api.ErrMagic
	}
	if get16(s, 11) != 512 || get16(s, 17) != 0 || get16(s, 19) != 0 || get16(s, 22) != 0 || get32(s, 40) != 0 {
		return fat.Boot{}, api.ErrForm
	}
	b := fat.Boot{Each: int64(s[13]), Ahead: get16(s, 14), Tables: int64(s[16]), Sectors: get32(s, 32), Long: get32(s, 36), Root: get32(s, 44), Info: get16(s, 48), Copy: get16(s, 50)}
	if e := check(b); e != api.OK {
		return fat.Boot{}, e
	}
	return b, api.OK
}

// usual is a volume of 80 sectors, 2 a cluster, with two tables of two sectors (one
// would do), the counts behind the copy: 34 clusters.
func usual() fat.Boot {
	return fat.Boot{Each: 2, Ahead: 8, Tables: 2, Sectors: 80, Long: 2, Root: 5, Info: 6, Copy: 3}
}

// anyBoot: one that is right, at any places.
func anyBoot(r *rand.Rand) fat.Boot {
	for {
		b := fat.Boot{Each: 1 << r.Intn(4), Ahead: 2 + r.Int63n(63), Tables: 1 + r.Int63n(2), Long: 1 + r.Int63n(5)}
		if r.Intn(2) == 0 {
			b.Ahead = 2 + r.Int63n(6)
		}
		b.Sectors = b.Ahead + b.Tables*b.Long + r.Int63n(300)
		b.Info = 1 + r.Int63n(b.Ahead-1)
		b.Copy = r.Int63n(b.Ahead)
		b.Root = 2 + r.Int63n(max(clusters(b), 1))
		if check(b) == api.OK {
			return b
		}
	}
}

// laid: a disk of any bytes with a volume: these numbers in its table (the four
// highest bits are any), and the count of those that are 0.
func laid(b fat.Boot, next []uint32, seed int64) []byte {
	d := pattern(int(512*b.Sectors), seed)
	lay(b, d[:512])
	if b.Copy > 0 {
		copy(d[512*b.Copy:], d[:512])
	}
	free := int64(0)
	first := d[512*b.Ahead : 512*(b.Ahead+b.Long)]
	for i, v := range next {
		put32(first, 8+4*i, int64(v)|get32(first, 8+4*i)&0xF0000000)
		if v == 0 {
			free++
		}
	}
	layCounts(d[512*b.Info:512*b.Info+512], free, seed)
	if b.Tables == 2 {
		copy(d[512*(b.Ahead+b.Long):], first)
	}
	return d
}

// numbers: a table of free clusters and chains, that go anywhere.
func numbers(r *rand.Rand, n int64) []uint32 {
	l := make([]uint32, n)
	for i := range l {
		switch r.Intn(8) {
		case 0, 1:
		case 2:
			l[i] = fat.End + uint32(r.Intn(8))
		case 3:
			l[i] = []uint32{fat.Bad, fat.Bad - 1, 1, uint32(n + 1), uint32(n + 2), 1 << 27}[r.Intn(6)]
		default:
			l[i] = uint32(2 + r.Int63n(n))
		}
	}
	return l
}

// usualDisk is a disk with the usual volume and a chain of 5, 9, 6; 7 alone; 8 bad;
// 10 and 11 that lead to each other.
func usualDisk() []byte {
	next := make([]uint32, 34)
	next[5-2], next[9-2], next[6-2], next[7-2], next[8-2], next[10-2], next[11-2] = 9, 6, 0x0FFFFFFF, fat.End, fat.Bad, 11, 10
	return laid(usual(), next, 3)
}

// openByWords: what Open must answer, and the table's numbers.
func openByWords(d []byte) (v fat.Volume, e api.Errno) {
	if len(d) < 512 {
		return v, api.ErrRange
	}
	b, e := parseByWords(d[:512])
	if e != api.OK {
		return v, e
	}
	if 512*b.Sectors > int64(len(d)) {
		return v, api.ErrRange
	}
	if b.Copy != 0 && !bytes.Equal(d[:512], d[512*b.Copy:512*b.Copy+512]) {
		return v, api.ErrForm
	}
	s := d[512*b.Info : 512*b.Info+512]
	if get32(s, 0) != 0x41615252 || get32(s, 484) != 0x61417272 || get32(s, 508) != 0xAA550000 {
		return v, api.ErrMagic
	}
	first, size := 512*b.Ahead, 512*b.Long
	if b.Tables == 2 && !bytes.Equal(d[first:first+size], d[first+size:first+2*size]) {
		return v, api.ErrForm
	}
	free := int64(0)
	var next []uint32
	for c := range clusters(b) {
		n := uint32(get32(d, int(first+8+4*c)) % (1 << 28))
		next = append(next, n)
		if n == 0 {
			free++
		}
	}
	if c := get32(s, 488); c != 0xFFFFFFFF && c != free {
		return v, api.ErrCount
	}
	return fat.Volume{Boot: b, Next: next, Counts: fat.Counts{Free: get32(s, 488), Next: get32(s, 492)}}, api.OK
}

// opened: Open's answer, held against the plain one; the disk stays as it is.
func opened(t *testing.T, what string, d []byte) (*fat.Volume, api.Errno) {
	t.Helper()
	ahead := bytes.Clone(d)
	want, e := openByWords(d)
	v, got := fat.Open(bare(d))
	if got != e || (v == nil) != (e != api.OK) {
		t.Fatalf("%s: Open: %d, not %d; %v", what, got, e, v)
	}
	if v != nil && (v.Boot != want.Boot || v.Counts != want.Counts || !slices.Equal(v.Next, want.Next)) {
		t.Fatalf("%s: Open: %+v, not %+v", what, v, want)
	}
	if !bytes.Equal(d, ahead) {
		t.Fatalf("%s: what was handed in is changed", what)
	}
	return v, e
}

// wants: Open answers an error, and so does the plain one.
func wants(t *testing.T, what string, d []byte, want api.Errno) {
	t.Helper()
	if _, e := opened(t, what, d); e != want {
		t.Errorf("%s: error %d, not %d", what, e, want)
	}
}
