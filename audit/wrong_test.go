package audit_test

import (
	"bytes"
	"encoding/binary"
	"fmt"
	"hash/crc32"
	"testing"

	"fettle/api"
	"fettle/audit"
	"fettle/disk"
	"fettle/header"
	"fettle/image"
	"fettle/journal"
)

// sign: the journal has this body, of so many records.
func sign(b []byte, count int, body []byte) {
	part := b[512:countsAt]
	clear(part[:512])
	copy(part[512:], body)
	binary.LittleEndian.PutUint32(part, 0x314A5446)
	binary.LittleEndian.PutUint64(part[4:], 9)
	binary.LittleEndian.PutUint32(part[12:], uint32(count))
	binary.LittleEndian.PutUint32(part[16:], uint32(len(body)))
	binary.LittleEndian.PutUint32(part[20:], crc32.ChecksumIEEE(body))
	binary.LittleEndian.PutUint32(part[24:], crc32.ChecksumIEEE(part[:24]))
}

// record: one record's bytes.
func record(at uint64, p string) []byte {
	b := binary.LittleEndian.AppendUint64(nil, at)
	b = binary.LittleEndian.AppendUint32(b, uint32(len(p)))
	return append(b, p...)
}

// fault: one thing that isn't as it must be.
type fault struct {
	what string
	lay  func(b []byte)
	want api.Errno
}

// at: a number of 8 bytes is another one.
func at(place int, v uint64) func([]byte) {
	return func(b []byte) { put(b, place, v) }
}

// one: a byte is another one.
func one(place int, v byte) func([]byte) {
	return func(b []byte) { b[place] = v }
}

func row(slot int) int { return rowsAt + 32*slot }

// headFaults is how many of the faults are the header's own.
const headFaults = 4

// faults: of the image that is laid, in the order in which they are told: each
// comes ahead of all behind it.
var faults = []fault{
	{"the header's Magic", one(0, 'G'), api.ErrMagic},
	{"the header's Backed", one(25, 1), api.ErrForm},
	{"the header's Size, no multiple", one(8, 1), api.ErrForm},
	{"a byte behind the header", one(511, 1), api.ErrForm},
	{"a record", func(b []byte) { sign(b, 1, record(35*512, "x")) }, api.ErrState},
	{"row 0's name", one(row(0), 'A'), api.ErrName},
	{"row 0's cluster: 0", at(row(0)+16, 0), api.ErrForm},
	{"row 1: a number alone", at(row(1)+24, 1), api.ErrName},
	{"row 2's cluster: 8192", at(row(2)+16, 8192), api.ErrForm},
	{"row 2's name: row 0's", func(b []byte) { copy(b[row(2):], "a\x00\x00\x00\x00\x00\x00\x00\x00\x00\x00\x00\x00\x00\x00\x00") }, api.ErrTwice},
	{"row 5's name", one(row(5)+2, 'c'), api.ErrName},
	{"a byte behind the rows", one(rowsAt+511, 1), api.ErrForm},
	{"row 0's cluster: the top table's", at(row(0)+16, 33), api.ErrRange},
	{"row 2's cluster: row 0's", at(row(2)+16, 38), api.ErrCross},
	{"row 5's cluster: Host", at(row(5)+16, 400), api.ErrRange},
	{"row 5's cluster: the last of all", at(row(5)+16, 8191), api.ErrRange},
	{"row 5's cluster: behind the file", at(row(5)+16, 44), api.ErrRange},
	{"row 5's cluster: row 2's", at(row(5)+16, 39), api.ErrCross},
	{"the top table's last: no entry", at(entry(33, 63), 2), api.ErrForm},
	{"the top table's third: cluster 0, Own", at(entry(33, 2), 1<<63), api.ErrForm},
	{"the top table's first: a Zero", at(entry(33, 0), 1), api.ErrForm},
	{"the top table's first: itself", at(entry(33, 0), data(33)), api.ErrRange},
	{"the top table's first: the header", at(entry(33, 0), owned(1)), api.ErrRange},
	{"the top table's first: Host", at(entry(33, 0), data(400)), api.ErrRange},
	{"the top table's first: behind the file", at(entry(33, 0), owned(44)), api.ErrRange},
	{"the top table's first: row 2's", at(entry(33, 0), data(39)), api.ErrCross},
	{"34's last: no entry", at(entry(34, 63), 3), api.ErrForm},
	{"34's first: 8192", at(entry(34, 0), data(8192)), api.ErrForm},
	{"34's first: the top table", at(entry(34, 0), owned(33)), api.ErrRange},
	{"34's first: behind the file", at(entry(34, 0), owned(399)), api.ErrRange},
	{"34's second: itself", at(entry(34, 1), data(34)), api.ErrCross},
	{"34's third: row 0's", at(entry(34, 2), data(38)), api.ErrCross},
	{"34's fourth: Host", at(entry(34, 3), data(400)), api.ErrRange},
	{"the top table's second: a Zero", at(entry(33, 1), 1), api.ErrForm},
	{"the top table's second: what is held", at(entry(33, 1), data(36)), api.ErrCross},
	{"35's last: no entry", at(entry(35, 63), 1<<62), api.ErrForm},
	{"35's second: a table", at(entry(35, 1), data(34)), api.ErrCross},
	{"35's 37th: a Zero beyond the guest's", at(entry(35, 36), 1), api.ErrRange},
	{"35's last: a Data beyond the guest's", at(entry(35, 63), data(35)), api.ErrRange},
	{"the top table's third: a Zero", at(entry(33, 2), 1), api.ErrForm},
	{"the top table's third: for no guest's clusters", at(entry(33, 2), data(38)), api.ErrRange},
	{"the top table's last: for no guest's clusters", at(entry(33, 63), data(35)), api.ErrRange},
	{"38's last: no entry", at(entry(38, 63), 256+1), api.ErrForm},
	{"38's first: the top table", at(entry(38, 0), data(33)), api.ErrRange},
	{"38's first: itself", at(entry(38, 0), data(38)), api.ErrCross},
	{"40's last: no entry", at(entry(40, 63), 255), api.ErrForm},
	{"40's first: row 5's", at(entry(40, 0), data(43)), api.ErrCross},
	{"40's third: the active disk's table", at(entry(40, 2), data(35)), api.ErrCross},
	{"40's fourth: Host", at(entry(40, 3), data(400)), api.ErrRange},
	{"38's second: behind the file", at(entry(38, 1), data(44)), api.ErrRange},
	{"38's third: for no guest's clusters", at(entry(38, 2), data(35)), api.ErrRange},
	{"39's last: no entry", at(entry(39, 63), 1<<21), api.ErrForm},
	{"39's third: a Zero", at(entry(39, 2), 1), api.ErrForm},
	{"43's first: what is held by a snapshot", at(entry(43, 0), data(41)), api.ErrCross},
	{"43's second: a Zero", at(entry(43, 1), 1), api.ErrForm},
	{"the header's count", one(countsAt, 2), api.ErrCount},
	{"the journal's count", one(countsAt+2, 0), api.ErrCount},
	{"the top table's count", one(countsAt+2*33+1, 1), api.ErrCount},
	{"a table's count", one(countsAt+2*40, 1), api.ErrCount},
	{"the count of what is held", one(countsAt+2*37, 3), api.ErrCount},
	{"a snapshot's count", one(countsAt+2*38, 2), api.ErrCount},
	{"the count of nothing", one(countsAt+2*44, 1), api.ErrCount},
	{"the last count", one(countsAt+2*399, 1), api.ErrCount},
	{"the last count's high byte", one(countsAt+2*399+1, 1), api.ErrCount},
	{"Own in the top table, and it isn't", at(entry(33, 1), owned(35)), api.ErrCount},
	{"Own in a table, and it isn't", at(entry(34, 1), owned(37)), api.ErrCount},
	{"Own in a snapshot's top table, and it isn't", at(entry(39, 0), owned(40)), api.ErrCount},
	{"Own in a snapshot's table, and it isn't", at(entry(40, 1), owned(37)), api.ErrCount},
	{"the first byte behind the counts", one(countsAt+800, 1), api.ErrForm},
	{"the last byte behind the counts", one(rowsAt-1, 0x80), api.ErrForm},
}

func TestLaid(t *testing.T) {
	x, e := audit.Check(laid())
	if e != api.OK || !same(x, laidInfo()) {
		t.Fatalf("%d, %+v", e, x)
	}
	if plain, e := byWords(laid()); e != api.OK || !same(plain, laidInfo()) {
		t.Fatalf("the plain audit: %d, %+v", e, plain)
	}
}

func TestEachFault(t *testing.T) {
	for _, f := range faults {
		b := laid()
		f.lay(b)
		wants(t, f.what, b, f.want)
		looked(t, b)
	}
}

// The first that applies: with each other behind it, and with all of them.
func TestFirstFault(t *testing.T) {
	for i, f := range faults {
		for j := i + 1; j < len(faults); j++ {
			b := laid()
			faults[j].lay(b)
			f.lay(b)
			wants(t, f.what+"; and "+faults[j].what, b, f.want)
		}
		b := laid()
		for j := len(faults) - 1; j >= i; j-- {
			faults[j].lay(b)
		}
		wants(t, f.what+"; and all behind it", b, f.want)
	}
}

// longer: bytes, with others behind them up to a length.
func longer(b []byte, n int) []byte {
	return append(bytes.Clone(b), pattern(n-len(b), 3)...)
}

func TestLengths(t *testing.T) {
	b := laid()
	for n := range len(b) {
		wants(t, fmt.Sprint("cut to ", n), b[:n], api.ErrRange)
	}
	wants(t, "nil", nil, api.ErrRange)
	for _, n := range []int{1, 511, 512, 513, 400 * 512, 400*512 + 1, 401 * 512, api.MaxFile - 1, api.MaxFile} {
		if n < len(b) {
			n += len(b)
		}
		x, e := audit.Check(longer(b, n))
		if e != api.OK || !same(x, laidInfo()) {
			t.Errorf("%d bytes: %d, %+v", n, e, x)
		}
	}
	wants(t, "a byte too many", longer(b, api.MaxFile+1), api.ErrBig)
	wants(t, "far too many", longer(b, 2*api.MaxFile), api.ErrBig)
	for i, f := range faults {
		b := longer(laid(), api.MaxFile+1)
		f.lay(b)
		want := f.want
		if i >= headFaults {
			want = api.ErrBig
		}
		wants(t, "too many; and "+f.what, b, want)
		if b = b[:34*512-1]; i >= headFaults {
			want = api.ErrRange
		}
		wants(t, "too few; and "+f.what, b, want)
	}
}

// All that the header's Decode tells of comes first.
func TestHeaders(t *testing.T) {
	for n := range 28 {
		wants(t, "shorter than the fields", bytes.Repeat([]byte{0xff}, n), api.ErrRange)
	}
	for _, c := range []struct {
		at   int
		v    byte
		want api.Errno
	}{
		{0, 0, api.ErrMagic}, {3, 0, api.ErrMagic}, {4, 8, api.ErrForm}, {4, 13, api.ErrForm}, {7, 1, api.ErrForm}, {8, 1, api.ErrForm}, {9, 0, api.ErrForm},
		{10, 0x21, api.ErrLimit}, {11, 1, api.ErrForm}, {15, 1, api.ErrForm}, {18, 1, api.ErrLimit}, {20, 28, api.ErrForm}, {21, 2, api.ErrForm}, {24, 2, api.ErrForm}, {27, 1, api.ErrForm}, {28, 1, api.ErrForm},
	} {
		b := laid()
		b[c.at] = c.v
		if _, e := header.Decode(b); e != c.want {
			t.Errorf("Decode, byte %d is %d: %d", c.at, c.v, e)
		}
		wants(t, fmt.Sprintf("byte %d is %d", c.at, c.v), b, c.want)
		if c.at < 28 {
			wants(t, fmt.Sprintf("byte %d is %d, and cut", c.at, c.v), b[:28], c.want)
		}
	}
	// Other headers that are right by themselves: what stands where isn't what it was.
	b := laid()
	b[24] = 1
	x, e := looked(t, b)
	want := laidInfo()
	want.Head.Backed = true
	if e != api.OK || !same(x, want) {
		t.Error("Backed", e)
	}
	b = laid()
	b[9] = 198 // 99 clusters: the last table's last entry is beyond them
	wants(t, "a shorter disk", b, api.ErrRange)
	b = laid()
	b[16] = 400&255 - 1 // one cluster less: no count of another one is there
	if x, e := looked(t, b); e != api.OK || len(x.Role) != 399 {
		t.Error("a smaller Host", e)
	}
	b = laid()
	b[16], b[17] = 43, 0
	wants(t, "a smaller Host, so that the rows and the top table stand elsewhere", b, api.ErrForm)
	b = laid()
	b[20] = 30
	if _, e := looked(t, b); e == api.OK {
		t.Error("another journal")
	}
}

// Which records count is layer 5's matter.
func TestJournal(t *testing.T) {
	name := record(rowsAt, "b")
	for _, c := range []struct {
		what  string
		count int
		body  []byte
		want  api.Errno
	}{
		{"one", 1, name, api.ErrState},
		{"one without bytes", 1, record(0, ""), api.ErrState},
		{"two", 2, append(record(rowsAt, "b"), record(9, "")...), api.ErrState},
		{"up to the last byte", 1, record(api.MaxFile-3, "abc"), api.ErrState},
		{"ahead of the journal", 1, record(511, "a"), api.ErrState},
		{"behind the journal", 1, record(countsAt, "a"), api.ErrState},
		{"none", 0, nil, api.OK},
		{"another count", 2, name, api.OK},
		{"fewer", 1, append(record(rowsAt, "b"), record(9, "")...), api.OK},
		{"beyond the last byte", 1, record(api.MaxFile-2, "abc"), api.OK},
		{"in the journal", 1, record(511, "ab"), api.OK},
		{"in the journal's end", 1, record(countsAt-1, "ab"), api.OK},
	} {
		b := laid()
		sign(b, c.count, c.body)
		wants(t, c.what, b, c.want)
		if c.want == api.ErrState {
			for _, at := range []int{512, 512 + 4, 512 + 12, 512 + 16, 512 + 20, 512 + 24, 512 + 28, 512 + 511, 1024 + 8} {
				b[at] ^= 0x40
				wants(t, c.what+", with another byte in it", b, api.OK)
				b[at] ^= 0x40
			}
		}
	}
	b := laid()
	copy(b[512:countsAt], pattern(countsAt-512, 4))
	wants(t, "any bytes in the journal", b, api.OK)
}

// What layer 5 writes, till it is done.
func TestPending(t *testing.T) {
	f, e := disk.New(laid())
	ok(t, e)
	j, e := journal.New(f, 512, countsAt-512)
	ok(t, e)
	ok(t, j.Commit(journal.Rec{At: rowsAt, B: []byte("b")}))
	wants(t, "it is to be done", f.Bytes(), api.ErrState)
	// It tells of records ahead of what they would make right.
	broken := f.Bytes()
	broken[rowsAt] = 'A'
	wants(t, "it would be right", broken, api.ErrState)
	_, e = j.Replay()
	ok(t, e)
	x, e := looked(t, f.Bytes())
	if e != api.OK || x.Snaps[0].Name != "b" {
		t.Error("it is done:", e)
	}
}

// What may be, though nothing would make it so: a cluster that is held twice by
// one table, a table that stands for two places, Own where the way isn't, and
// what isn't referred to.
func TestStrange(t *testing.T) {
	held := laid()
	put(held, entry(34, 5), data(41))
	put(held, entry(34, 6), data(41))
	held[countsAt+2*41] = 3
	x, e := looked(t, held)
	if e != api.OK || len(x.Spots(41)) != 3 {
		t.Error("held twice by one table", e)
	}
	put(held, entry(34, 6), owned(41))
	wants(t, "held twice, and Own", held, api.ErrCount)

	// 40 is met first as a table of the first 64: so is its entry 63 looked at.
	twice := laid()
	put(twice, entry(40, 63), 1)
	put(twice, entry(38, 1), data(40))
	twice[countsAt+2*40] = 3
	if _, e := looked(t, twice); e != api.OK {
		t.Error("a table for two places", e)
	}
	// Met first as the other one, that entry is beyond the guest's last cluster.
	put(twice, entry(33, 1), data(40))
	twice[countsAt+2*35], twice[countsAt+2*40] = 1, 4
	wants(t, "the other place first", twice, api.ErrRange)

	own := laid()
	put(own, entry(40, 5), owned(41))
	wants(t, "Own in a table with two references", own, api.OK)

	loose := append(laid(), pattern(2048, 8)...)
	wants(t, "clusters that nothing refers to", loose, api.OK)
	put(loose, entry(34, 9), owned(46))
	wants(t, "one of them is referred to, and isn't counted", loose, api.ErrCount)
	loose[countsAt+2*46] = 1
	if x, e := looked(t, loose); e != api.OK || x.Used() != 45 || x.Role[44] != 0 || x.Role[46] != audit.Held {
		t.Error("one of them is referred to", e)
	}
	wants(t, "cut in the last cluster that is referred to", loose[:47*512-1], api.ErrRange)
	wants(t, "cut behind it", loose[:47*512], api.OK)
}

// many: an image with clusters of 1024 bytes in which so many entries lead to one
// cluster, whose count says what is asked for.
func many(t *testing.T, times int, count uint16) []byte {
	t.Helper()
	h := header.Header{Bits: 10, Size: 128 * 128 * 1024, Host: 1000}
	h.Journal = h.Least()
	b, e := image.Make(h)
	ok(t, e)
	first, counts := int(h.First()), int(h.RefsAt().From)
	held := first
	b = append(b, make([]byte, 1024*(5+times/128+2))...)
	tops := []int{first - 1}
	next := held + 1
	for slot := range 4 { // each of five top tables has room for 128 tables
		tops = append(tops, next)
		row := int(h.SnapsAt().From) + 32*slot
		b[row] = byte('a' + slot)
		put(b, row+16, uint64(next))
		binary.LittleEndian.PutUint16(b[counts+2*next:], 1)
		next++
	}
	for i := range times {
		if i%128 == 0 {
			if i > 0 {
				next++
			}
			put(b, 1024*tops[i/128/128]+8*(i/128%128), owned(uint64(next)))
			binary.LittleEndian.PutUint16(b[counts+2*next:], 1)
		}
		put(b, 1024*next+8*(i%128), data(uint64(held)))
	}
	binary.LittleEndian.PutUint16(b[counts+2*held:], count)
	return b
}

// A count ends at 65535: what is referred to more often has no right one.
func TestManyReferences(t *testing.T) {
	x, e := looked(t, many(t, api.MaxRefs, api.MaxRefs))
	if e != api.OK || len(x.Spots(x.Head.First())) != api.MaxRefs {
		t.Error("as many as may be", e)
	}
	wants(t, "a count that is too small", many(t, api.MaxRefs, api.MaxRefs-1), api.ErrCount)
	for _, count := range []uint16{0, 1, api.MaxRefs} {
		wants(t, fmt.Sprint("one more than may be, counted as ", count), many(t, api.MaxRefs+1, count), api.ErrCount)
		wants(t, fmt.Sprint("two more than may be, counted as ", count), many(t, api.MaxRefs+2, count), api.ErrCount)
	}
}
