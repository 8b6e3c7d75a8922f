package gpt_test

import (
	"bytes"
	"encoding/binary"
	"hash/crc32"
	"math/rand"
	"slices"
	"testing"

	"fettle/api"
	"fettle/gpt"
)

// The signatures that the document lists.
var (
	_ func(gpt.Table) api.Errno                = gpt.Table.Check
	_ func(gpt.Table) ([]gpt.Piece, api.Errno) = gpt.Table.Encode
	_ func(api.Disk) (gpt.Table, api.Errno)    = gpt.Parse
	_ func(gpt.Table) []api.Part               = gpt.Table.Parts
	_ func(gpt.Table) []api.Ext                = gpt.Table.Held
	_ func(api.Disk) ([]gpt.Piece, api.Errno)  = gpt.Mend
	_                                          = gpt.Entry{Ids: [32]byte{}, First: int64(1), Last: int64(1), Rest: [80]byte{}}
	_                                          = gpt.Table{Sectors: int64(1), First: int64(1), Last: int64(1), Id: [16]byte{}, List: []gpt.Entry{}, At: int64(1), Behind: int64(1)}
	_                                          = gpt.Piece{At: int64(1), B: []byte{}}
)

// bare is a disk that hands out its own bytes, with all room behind them: who
// writes into them is found out.
type bare []byte

func (m bare) Size() int64 { return int64(len(m)) }

func (m bare) Read(at, n int64) ([]byte, api.Errno) {
	if at < 0 || n < 0 || n > int64(len(m))-at {
		return nil, api.ErrRange
	}
	return m[at : at+n], api.OK
}

// odd is a disk that answers as it is told.
type odd struct {
	bare
	answer func(at, n int64) ([]byte, api.Errno, bool)
}

func (o odd) Read(at, n int64) ([]byte, api.Errno) {
	if b, e, told := o.answer(at, n); told {
		return b, e
	}
	return o.bare.Read(at, n)
}

func ok(t *testing.T, e api.Errno) {
	t.Helper()
	if e != api.OK {
		t.Fatal("error", e)
	}
}

func pattern(n int, seed int64) []byte {
	b := make([]byte, n)
	rand.New(rand.NewSource(seed)).Read(b)
	return b
}

// same: is one what the other is? Nil and empty lists are one.
func same(a, b gpt.Table) bool {
	return a.Sectors == b.Sectors && a.First == b.First && a.Last == b.Last && a.Id == b.Id && slices.Equal(a.List, b.List) && a.At == b.At && a.Behind == b.Behind
}

func samePieces(a, b []gpt.Piece) bool {
	return slices.EqualFunc(a, b, func(x, y gpt.Piece) bool { return x.At == y.At && bytes.Equal(x.B, y.B) })
}

// entry: a partition of these sectors; its other bytes are any.
func entry(seed, first, last int64) gpt.Entry {
	x := gpt.Entry{First: first, Last: last}
	copy(x.Ids[:], pattern(32, seed))
	copy(x.Rest[:], pattern(80, seed+1))
	x.Ids[seed%16] = 9
	return x
}

// usual is a table of 64 sectors with six entries, of two rows: three partitions that don't
// rise, the last one in the sixth.
func usual() gpt.Table {
	t := gpt.Table{Sectors: 64, First: 6, Last: 58, At: 3, Behind: 60, List: make([]gpt.Entry, 6)}
	copy(t.Id[:], pattern(16, 3))
	t.List[1] = entry(1, 30, 58)
	t.List[2] = entry(2, 6, 6)
	t.List[5] = entry(5, 7, 20)
	return t
}

func clone(t gpt.Table) gpt.Table {
	t.List = slices.Clone(t.List)
	return t
}

// headBytes: a header's sector, written by hand.
func headBytes(t gpt.Table, own, other, at int64, sum uint32) []byte {
	b := make([]byte, 512)
	copy(b, "EFI PART")
	for at, v := range map[int]uint32{8: 0x10000, 12: 92, 80: uint32(len(t.List)), 84: 128, 88: sum} {
		binary.LittleEndian.PutUint32(b[at:], v)
	}
	for at, v := range map[int]int64{24: own, 32: other, 40: t.First, 48: t.Last, 72: at} {
		binary.LittleEndian.PutUint64(b[at:], uint64(v))
	}
	copy(b[56:], t.Id[:])
	sumHead(b)
	return b
}

// sumHead: a header's sum is right again.
func sumHead(b []byte) {
	clear(b[16:20])
	binary.LittleEndian.PutUint32(b[16:], crc32.ChecksumIEEE(b[:92]))
}

// listBytes: the entries, written by hand.
func listBytes(l []gpt.Entry) []byte {
	b := make([]byte, 0, 128*len(l))
	for _, x := range l {
		b = append(b, x.Ids[:]...)
		b = binary.LittleEndian.AppendUint64(b, uint64(x.First))
		b = binary.LittleEndian.AppendUint64(b, uint64(x.Last))
		b = append(b, x.Rest[:]...)
	}
	return b
}

// piecesByWords: what Encode must answer of a table that is one.
func piecesByWords(t gpt.Table) []gpt.Piece {
	list := listBytes(t.List)
	sum := crc32.ChecksumIEEE(list)
	list = append(list, make([]byte, (512-len(list)%512)%512)...)
	return []gpt.Piece{
		{At: 512 * t.At, B: list},
		{At: 512, B: headBytes(t, 1, t.Sectors-1, t.At, sum)},
		{At: 512 * t.Behind, B: list},
		{At: 512 * (t.Sectors - 1), B: headBytes(t, t.Sectors-1, 1, t.Behind, sum)},
	}
}

// laid: a disk of any bytes with a table, right or not, written by hand.
func laid(t gpt.Table) []byte {
	d := pattern(int(512*t.Sectors), t.Sectors)
	put(d, piecesByWords(t))
	return d
}

func put(d []byte, l []gpt.Piece) {
	for _, p := range l {
		copy(d[p.At:], p.B)
	}
}

// first, second: the sectors of the headers.
func first(d []byte) []byte  { return d[512:1024] }
func second(d []byte) []byte { return d[len(d)-512:] }

// stop is an error by which the plain Parse is left.
type stop api.Errno

func must(holds bool, e api.Errno) {
	if !holds {
		panic(stop(e))
	}
}

// caught: what is done, left at its first error.
func caught(do func()) (e api.Errno) {
	defer func() {
		if s := recover(); s != nil {
			e = api.Errno(s.(stop))
		}
	}()
	do()
	return api.OK
}

// mustBe: the chapter's Check once more, with a mark for each sector.
func mustBe(t gpt.Table) {
	rows := (int64(len(t.List)) + 3) / 4
	must(t.Sectors >= 6 && t.Sectors <= 32768, api.ErrForm)
	must(len(t.List) >= 1 && len(t.List) <= 128, api.ErrForm)
	must(t.At >= 2 && t.At <= t.Sectors-1-rows, api.ErrRange)
	must(t.First >= t.At+rows && t.First <= t.Sectors-1, api.ErrRange)
	must(t.Last >= t.First-1, api.ErrRange)
	must(t.Behind > t.Last && t.Behind <= t.Sectors-1-rows, api.ErrRange)
	count := 0
	for _, x := range t.List {
		b := listBytes([]gpt.Entry{x})
		if bytes.Equal(b[:16], make([]byte, 16)) {
			must(bytes.Equal(b, make([]byte, 128)), api.ErrForm)
			continue
		}
		count++
		must(x.First >= t.First && x.First <= t.Last && x.Last >= t.First && x.Last <= t.Last && x.First <= x.Last, api.ErrRange)
	}
	must(count <= 32, api.ErrBig)
	taken := map[int64]int{}
	for _, x := range t.List {
		for n := x.First; n <= x.Last && x.Ids != [32]byte{}; n++ {
			taken[n]++
			must(taken[n] < 2, api.ErrCross)
		}
	}
}

func checkByWords(t gpt.Table) api.Errno {
	return caught(func() { mustBe(t) })
}

// said is a header's fields.
type said struct {
	own, other, first, last, at int64
	id                          string
	count, sum                  uint32
}

func number(b []byte) int64 {
	return int64(min(binary.LittleEndian.Uint64(b), 8388608))
}

func readHead(b []byte) said {
	u32 := func(at int) uint32 { return binary.LittleEndian.Uint32(b[at:]) }
	must(string(b[:8]) == "EFI PART", api.ErrMagic)
	must(u32(8) == 0x10000 && u32(12) == 92 && u32(20) == 0 && u32(84) == 128, api.ErrForm)
	must(u32(80) >= 1 && u32(80) <= 128 && slices.Max(b[92:512]) == 0, api.ErrForm)
	b = bytes.Clone(b[:92])
	sum := u32(16)
	clear(b[16:20])
	must(sum == crc32.ChecksumIEEE(b), api.ErrSum)
	return said{number(b[24:]), number(b[32:]), number(b[40:]), number(b[48:]), number(b[72:]), string(b[56:72]), u32(80), u32(88)}
}

func readList(d []byte, h said) (l []gpt.Entry) {
	from, to := 512*h.at, 512*h.at+128*int64(h.count)
	must(to <= int64(len(d)), api.ErrRange)
	must(crc32.ChecksumIEEE(d[from:to]) == h.sum, api.ErrSum)
	for b := d[from:to]; len(b) > 0; b = b[128:] {
		x := gpt.Entry{Ids: [32]byte(b), First: number(b[32:]), Last: number(b[40:]), Rest: [80]byte(b[48:])}
		l = append(l, x)
	}
	return l
}

func mustBeDisk(d []byte) (last int64) {
	must(len(d)%512 == 0 && len(d) >= 6*512, api.ErrRange)
	return int64(len(d)/512 - 1)
}

// parseByWords: what Parse must answer.
func parseByWords(d []byte) (t gpt.Table, e api.Errno) {
	e = caught(func() {
		last := mustBeDisk(d)
		a, b := readHead(first(d)), readHead(second(d))
		must(a.own == 1 && a.other == last && b.own == last && b.other == 1, api.ErrForm)
		must(a.count == b.count && a.sum == b.sum && a.first == b.first && a.last == b.last && a.id == b.id, api.ErrForm)
		l := readList(d, a)
		readList(d, b)
		t = gpt.Table{Sectors: last + 1, First: a.first, Last: a.last, Id: [16]byte([]byte(a.id)), List: l, At: a.at, Behind: b.at}
		mustBe(t)
	})
	if e != api.OK {
		return gpt.Table{}, e
	}
	return t, e
}

// aloneByWords: the table of one header, if that is right alone.
func aloneByWords(d []byte, second bool) (t gpt.Table, e api.Errno) {
	e = caught(func() {
		last := mustBeDisk(d)
		own, other := int64(1), last
		if second {
			own, other = last, 1
		}
		h := readHead(d[512*own : 512*own+512])
		must(h.own == own && h.other == other, api.ErrForm)
		l := readList(d, h)
		t = gpt.Table{Sectors: last + 1, First: h.first, Last: h.last, Id: [16]byte([]byte(h.id)), List: l, At: h.at, Behind: last - (int64(h.count)+3)/4}
		if second {
			t.At, t.Behind = 2, h.at
		}
		mustBe(t)
	})
	return t, e
}

// mendByWords: what Mend must answer.
func mendByWords(d []byte) ([]gpt.Piece, api.Errno) {
	if e := caught(func() { mustBeDisk(d) }); e != api.OK {
		return nil, e
	}
	if _, e := parseByWords(d); e == api.OK {
		return nil, api.OK
	}
	t, told := aloneByWords(d, false)
	if told == api.OK {
		return piecesByWords(t), api.OK
	}
	if t, e := aloneByWords(d, true); e == api.OK {
		return piecesByWords(t), api.OK
	}
	return nil, told
}

// looked: Parse's and Mend's answers, held against the plain ones; the disk stays as it is.
func looked(t *testing.T, what string, d []byte) (gpt.Table, api.Errno) {
	t.Helper()
	ahead := bytes.Clone(d)
	want, e := parseByWords(d)
	x, got := gpt.Parse(bare(d))
	if got != e || !same(x, want) {
		t.Fatalf("%s: Parse: %d, not %d; %+v, not %+v", what, got, e, x, want)
	}
	pieces, f := mendByWords(d)
	l, got := gpt.Mend(bare(d))
	if got != f || !samePieces(l, pieces) {
		t.Fatalf("%s: Mend: %d, not %d; %d pieces, not %d", what, got, f, len(l), len(pieces))
	}
	if !bytes.Equal(d, ahead) {
		t.Fatalf("%s: what was handed in is changed", what)
	}
	return x, e
}

// wants: Parse answers an error, and so does the plain one.
func wants(t *testing.T, what string, d []byte, want api.Errno) {
	t.Helper()
	if _, e := looked(t, what, d); e != want {
		t.Errorf("%s: error %d, not %d", what, e, want)
	}
}

// mended: behind Mend's pieces the disk has a right table that says what another
// one did, but for where its entries stand; a second Mend finds nothing.
func mended(t *testing.T, what string, d []byte, was gpt.Table) {
	t.Helper()
	l, e := gpt.Mend(bare(d))
	if e != api.OK || len(l) != 4 {
		t.Fatalf("%s: Mend: %d, %d pieces", what, e, len(l))
	}
	now := bytes.Clone(d)
	put(now, l)
	x, e := looked(t, what, now)
	if e != api.OK || !slices.Equal(x.Parts(), was.Parts()) {
		t.Fatalf("%s: %d; %v, not %v", what, e, x.Parts(), was.Parts())
	}
	x.At, x.Behind = was.At, was.Behind
	if !same(x, was) {
		t.Fatalf("%s: %+v, not %+v", what, x, was)
	}
	for _, p := range was.Parts() {
		if !bytes.Equal(now[p.Ext.From:p.Ext.To], d[p.Ext.From:p.Ext.To]) {
			t.Fatalf("%s: a partition's bytes are written", what)
		}
	}
	if l, e := gpt.Mend(bare(now)); e != api.OK || len(l) != 0 {
		t.Fatalf("%s: a second Mend: %d, %d pieces", what, e, len(l))
	}
}
