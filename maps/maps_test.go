package maps_test

import (
	"bytes"
	"encoding/binary"
	"math"
	"math/rand"
	"slices"
	"testing"

	"fettle/api"
	"fettle/disk"
	"fettle/header"
	"fettle/journal"
	"fettle/maps"
	"fettle/tx"
)

// The signatures that the document lists, and the header's that are promoted.
var (
	_ func(maps.Entry) (uint64, api.Errno)                        = maps.Encode
	_ func(uint64) (maps.Entry, api.Errno)                        = maps.Decode
	_ func([]byte) ([]maps.Entry, api.Errno)                      = maps.List
	_ func(...maps.Entry) ([]byte, api.Errno)                     = maps.Bytes
	_ func(header.Header, *tx.Tx, int64) (*maps.Table, api.Errno) = maps.At
	_ func(*maps.Table) int64                                     = (*maps.Table).Where
	_ func(*maps.Table, int64) (maps.Entry, api.Errno)            = (*maps.Table).Get
	_ func(*maps.Table, int64, maps.Entry) api.Errno              = (*maps.Table).Set
	_ func(*maps.Table) ([]maps.Entry, api.Errno)                 = (*maps.Table).All
	_ func(*maps.Table) int64                                     = (*maps.Table).Cluster
	_ func(*maps.Table) int64                                     = (*maps.Table).Entries
	_ func(*maps.Table) int64                                     = (*maps.Table).Guest
	_ func(*maps.Table) api.Ext                                   = (*maps.Table).JournalAt
	_ func(*maps.Table) api.Ext                                   = (*maps.Table).RefsAt
	_ func(*maps.Table) api.Ext                                   = (*maps.Table).SnapsAt
	_ func(*maps.Table) api.Ext                                   = (*maps.Table).TopAt
	_ func(*maps.Table) int64                                     = (*maps.Table).First
	_ func(*maps.Table) int64                                     = (*maps.Table).Least
	_ func(*maps.Table) api.Errno                                 = (*maps.Table).Check
	_ func(*maps.Table) ([]byte, api.Errno)                       = (*maps.Table).Encode

	_ = [1]int{}[maps.None-0]
	_ = [1]int{}[maps.Zero-1]
	_ = [1]int{}[maps.Data-2]
)

const own = uint64(1) << 63

// small has few clusters, so that whole files of it are held against each other.
var small = header.Header{Bits: 9, Size: 32768, Host: 61, Journal: 29}

// several: headers of all kinds of clusters.
var several = []header.Header{
	small,
	{Bits: 9, Size: 65536, Host: 8192, Journal: 59},
	{Bits: 10, Size: 65536, Host: 600, Journal: 25, Backed: true},
	{Bits: 11, Size: 65536, Host: 2048, Journal: 23},
	{Bits: 12, Size: 65536, Host: 100, Journal: 40},
}

// extremes: numbers with which a sum or a product would wrap round.
var extremes = []int64{
	math.MinInt64, math.MinInt64 + 1, math.MinInt64 + 512, math.MinInt32, -api.MaxFile, -8192, -64, -2, -1,
	api.MaxHost, api.MaxHost + 1, api.MaxFile, math.MaxInt32, math.MaxUint32, math.MaxUint32 + 1,
	1 << 55, 1<<55 + 1, 1 << 60, 1 << 61, 1<<61 + 3, 1 << 62, math.MaxInt64 - 1, math.MaxInt64,
}

// wrong: entries that have no number.
func wrong() []maps.Entry {
	list := []maps.Entry{
		{Kind: maps.None, Own: true}, {Kind: maps.Zero, Own: true},
		{Kind: maps.Data}, {Kind: maps.Data, Own: true},
	}
	for _, kind := range []int{math.MinInt, math.MinInt32, -256, -2, -1, 3, 4, 255, 256, 768, math.MaxInt32, math.MaxUint32 + 1, 1 << 62, math.MaxInt} {
		for _, cluster := range []int64{0, 1, 3, 8191} {
			list = append(list, maps.Entry{Kind: kind, Cluster: cluster}, maps.Entry{Kind: kind, Cluster: cluster, Own: true})
		}
	}
	for _, cluster := range extremes {
		for _, kind := range []int{maps.None, maps.Zero, maps.Data} {
			list = append(list, maps.Entry{Kind: kind, Cluster: cluster}, maps.Entry{Kind: kind, Cluster: cluster, Own: true})
		}
	}
	for _, cluster := range []int64{1, 2, 3, 256, 8191} {
		for _, kind := range []int{maps.None, maps.Zero} {
			list = append(list, maps.Entry{Kind: kind, Cluster: cluster}, maps.Entry{Kind: kind, Cluster: cluster, Own: true})
		}
	}
	return list
}

// right: all entries that there are, each with its number, in the document's words.
func right() map[maps.Entry]uint64 {
	all := map[maps.Entry]uint64{{Kind: 0}: 0, {Kind: 1}: 1}
	for cluster := int64(1); cluster <= 8191; cluster++ {
		all[maps.Entry{Kind: 2, Cluster: cluster}] = uint64(cluster) * 256
		all[maps.Entry{Kind: 2, Cluster: cluster, Own: true}] = uint64(cluster)*256 + own
	}
	return all
}

// entry: any entry that there is.
func entry(r *rand.Rand) maps.Entry {
	switch r.Intn(4) {
	case 0:
		return maps.Entry{Kind: maps.None}
	case 1:
		return maps.Entry{Kind: maps.Zero}
	}
	return maps.Entry{Kind: maps.Data, Cluster: []int64{1, 2, 255, 256, 8190, 8191, 1 + r.Int63n(8191)}[r.Intn(7)], Own: r.Intn(2) == 0}
}

func entries(r *rand.Rand, n int64) []maps.Entry {
	l := make([]maps.Entry, n)
	for i := range l {
		l[i] = entry(r)
	}
	return l
}

// laid: entries as bytes, in the document's words.
func laid(l []maps.Entry) []byte {
	var b []byte
	for _, e := range l {
		v := uint64(0)
		switch e.Kind {
		case maps.Zero:
			v = 1
		case maps.Data:
			v = uint64(e.Cluster) * 256
		}
		if e.Own {
			v += own
		}
		for range 8 {
			b = append(b, byte(v%256))
			v /= 256
		}
	}
	return b
}

func ok(t *testing.T, e api.Errno) {
	t.Helper()
	if e != api.OK {
		t.Fatal("error", e)
	}
}

func TestExample(t *testing.T) {
	if v, e := maps.Encode(maps.Entry{Kind: maps.Data, Cluster: 3}); v != 768 || e != api.OK {
		t.Error("Encode", v, e)
	}
	if x, e := maps.Decode(2); x != (maps.Entry{}) || e != api.ErrForm {
		t.Error("Decode", x, e)
	}
}

// Every entry as a number, and back: no two have one.
func TestOneToOne(t *testing.T) {
	met := map[uint64]maps.Entry{}
	for e, want := range right() {
		v, err := maps.Encode(e)
		if v != want || err != api.OK {
			t.Fatalf("Encode(%+v) = %d, %d, want %d", e, v, err, want)
		}
		if other, twice := met[v]; twice {
			t.Fatalf("%+v and %+v are both %d", e, other, v)
		}
		met[v] = e
		if back, err := maps.Decode(v); back != e || err != api.OK {
			t.Fatalf("Decode(%d) = %+v, %d, want %+v", v, back, err, e)
		}
	}
}

func TestEncodeWrong(t *testing.T) {
	for _, e := range wrong() {
		if v, err := maps.Encode(e); v != 0 || err != api.ErrForm {
			t.Errorf("Encode(%+v) = %d, %d", e, v, err)
		}
	}
}

// Numbers around every right one, and those with any other bits, are none.
func TestDecodeWrong(t *testing.T) {
	back := map[uint64]maps.Entry{}
	for e, v := range right() {
		back[v] = e
	}
	check := func(v uint64) {
		want, is := back[v]
		got, err := maps.Decode(v)
		if is && (got != want || err != api.OK) || !is && (got != maps.Entry{} || err != api.ErrForm) {
			t.Fatalf("Decode(%d) = %+v, %d", v, got, err)
		}
		if n, err := maps.Encode(got); is && (n != v || err != api.OK) {
			t.Fatalf("Decode(%d) = %+v, Encode = %d, %d", v, got, n, err)
		}
	}
	for v := range uint64(8200 * 256) {
		check(v)
		check(v + own)
	}
	for i := range 64 {
		for _, v := range []uint64{0, 1, 256, 768, 8191 * 256, own, own + 256, own + 8191*256, math.MaxUint64} {
			check(v ^ 1<<i)
			for j := range i {
				check(v ^ 1<<i ^ 1<<j)
			}
		}
	}
	r := rand.New(rand.NewSource(1))
	for range 100000 {
		check(r.Uint64() >> r.Intn(64))
		check(r.Uint64()>>r.Intn(64)&^255 | own)
	}
}

// Entries as bytes and back; bytes at the end that are fewer than 8 are nothing.
func TestListAndBytes(t *testing.T) {
	r := rand.New(rand.NewSource(2))
	for n := range int64(70) {
		l := entries(r, n)
		b, e := maps.Bytes(l...)
		if e != api.OK || !bytes.Equal(b, laid(l)) {
			t.Fatalf("Bytes of %d: %d, or other bytes", n, e)
		}
		for more := range 8 {
			for _, fill := range []byte{0, 1, 2, 255} {
				longer := append(slices.Clone(b), bytes.Repeat([]byte{fill}, more)...)
				got, e := maps.List(longer)
				if e != api.OK || !slices.Equal(got, l) {
					t.Fatalf("List of %d and %d bytes: %d, or other entries", n, more, e)
				}
			}
		}
	}
}

func TestListAndBytesOfNothing(t *testing.T) {
	for _, b := range [][]byte{nil, {}, {2}, {1, 2, 3, 4, 5, 6, 7}} {
		if l, e := maps.List(b); len(l) != 0 || e != api.OK {
			t.Errorf("List(%v) = %v, %d", b, l, e)
		}
	}
	for _, l := range [][]maps.Entry{nil, {}} {
		if b, e := maps.Bytes(l...); len(b) != 0 || e != api.OK {
			t.Errorf("Bytes(%v) = %v, %d", l, b, e)
		}
	}
	if b, e := maps.Bytes(); len(b) != 0 || e != api.OK {
		t.Error("Bytes of nothing", b, e)
	}
}

// One entry that is none, at any place, and all is none.
func TestListAndBytesWrong(t *testing.T) {
	r := rand.New(rand.NewSource(3))
	none := wrong()
	for n := int64(1); n < 12; n++ {
		for at := range n {
			l := entries(r, n)
			b := laid(l)
			for _, v := range []uint64{2, 255, 257, 8192 * 256, own, own + 1, own + 257, own + 8192*256, 1 << 62, math.MaxUint64} {
				binary.LittleEndian.PutUint64(b[8*at:], v)
				if got, e := maps.List(b); len(got) != 0 || e != api.ErrForm {
					t.Fatalf("List with %d at %d of %d: %v, %d", v, at, n, got, e)
				}
			}
			l[at] = none[r.Intn(len(none))]
			if got, e := maps.Bytes(l...); len(got) != 0 || e != api.ErrForm {
				t.Fatalf("Bytes with %+v at %d of %d: %v, %d", l[at], at, n, got, e)
			}
		}
	}
}

// What is handed in isn't changed, its spare room neither; answers are new memory.
func TestNewMemory(t *testing.T) {
	r := rand.New(rand.NewSource(4))
	l := entries(r, 9)
	room := append(slices.Clone(l), entries(r, 4)...)
	was := slices.Clone(room)
	b, e := maps.Bytes(room[:9]...)
	ok(t, e)
	spare := append(slices.Clone(b), 7, 7, 7, 7, 7, 7, 7, 7, 7)
	wasBytes := slices.Clone(spare)
	got, e := maps.List(spare[:len(b)])
	ok(t, e)
	if !slices.Equal(room, was) || !bytes.Equal(spare, wasBytes) {
		t.Error("what is handed in is changed")
	}
	clear(room)
	clear(spare)
	if !slices.Equal(got, l) || !bytes.Equal(b, laid(l)) {
		t.Error("an answer shares memory with what is handed in")
	}
	x := opened(t, small, make([]byte, 61*512), 40)
	one, e := x.All()
	ok(t, e)
	two, e := x.All()
	ok(t, e)
	for i := range one {
		one[i].Kind = maps.Zero
	}
	for _, e := range two {
		if e.Kind != maps.None {
			t.Fatal("two answers share memory")
		}
	}
	x.compare(t, make([]maps.Entry, 64))
}

// table is a table within changes, with all that is beneath.
type table struct {
	*maps.Table
	f *disk.File
	j *journal.Journal
	c *tx.Tx
}

// over: a table within new changes of a file.
func over(t *testing.T, h header.Header, f *disk.File, cluster int64) table {
	t.Helper()
	at := h.JournalAt()
	j, e := journal.New(f, at.From, at.To-at.From)
	ok(t, e)
	c, e := tx.Begin(j)
	ok(t, e)
	x, e := maps.At(h, c, cluster)
	ok(t, e)
	if x == nil {
		t.Fatal("At: no table")
	}
	return table{x, f, j, c}
}

func opened(t *testing.T, h header.Header, b []byte, cluster int64) table {
	t.Helper()
	f, e := disk.New(b)
	ok(t, e)
	return over(t, h, f, cluster)
}

// again: the same table within new changes of the same file.
func (x table) again(t *testing.T) table {
	t.Helper()
	return over(t, x.Header, x.f, x.Where())
}

// compare holds all that a table tells against the entries that it must have.
func (x table) compare(t *testing.T, want []maps.Entry) {
	t.Helper()
	if int64(len(want)) != x.Entries() {
		t.Fatalf("%d entries, want %d", x.Entries(), len(want))
	}
	all, e := x.All()
	if e != api.OK || !slices.Equal(all, want) {
		t.Fatalf("All: error %d, or other entries", e)
	}
	for i, w := range want {
		if got, e := x.Get(int64(i)); got != w || e != api.OK {
			t.Fatalf("Get(%d) = %+v, %d, want %+v", i, got, e, w)
		}
	}
}

func TestAt(t *testing.T) {
	for _, h := range several {
		x := opened(t, h, make([]byte, h.First()*h.Cluster()), 1)
		for _, cluster := range []int64{1, 2, h.First() - 1, h.First(), h.Host / 2, h.Host - 2, h.Host - 1} {
			y, e := maps.At(h, x.c, cluster)
			if e != api.OK || y == nil || y.Where() != cluster || y.Header != h {
				t.Fatalf("%+v: At(%d): %d, or another table", h, cluster, e)
			}
		}
		for _, cluster := range append([]int64{0, h.Host, h.Host + 1}, extremes...) {
			if y, e := maps.At(h, x.c, cluster); y != nil || e != api.ErrRange {
				t.Errorf("%+v: At(%d): %v, %d", h, cluster, y, e)
			}
			if y, e := maps.At(h, nil, cluster); y != nil || e != api.ErrNil {
				t.Errorf("%+v: At(%d) of nil: %v, %d", h, cluster, y, e)
			}
		}
		if y, e := maps.At(h, nil, 1); y != nil || e != api.ErrNil {
			t.Error("At of nil:", y, e)
		}
	}
}

// A header that is none: nil changes ahead of all, the place ahead of its Check.
func TestAtHeader(t *testing.T) {
	x := opened(t, small, make([]byte, 61*512), 40)
	for _, h := range []header.Header{
		{}, {Bits: 8, Size: 512, Host: 60, Journal: 29}, {Bits: 13, Size: 512, Host: 60, Journal: 29}, {Bits: 9, Size: 513, Host: 60, Journal: 29},
		{Bits: 9, Size: 1 << 24, Host: 60, Journal: 29}, {Bits: 9, Size: 512, Host: 0, Journal: 29}, {Bits: 9, Size: 512, Host: 1, Journal: 29},
		{Bits: 9, Size: 512, Host: 8193, Journal: 59}, {Bits: 12, Size: 512, Host: 8192, Journal: 59}, {Bits: 9, Size: 512, Host: 60, Journal: 27},
		{Bits: 9, Size: 512, Host: 30, Journal: 29}, {Bits: 9, Size: 512, Host: math.MaxInt64, Journal: 29}, {Bits: 9, Size: 512, Host: math.MinInt64, Journal: 29},
		{Bits: math.MaxInt, Size: math.MaxInt64, Host: math.MaxInt64, Journal: math.MaxInt64}, {Bits: math.MinInt, Size: math.MinInt64, Host: math.MinInt64, Journal: math.MinInt64},
	} {
		if h.Check() == api.OK {
			t.Fatalf("%+v: another header is needed", h)
		}
		for _, cluster := range append([]int64{0, 1, 2, 29, 30, 59, 60, 8191, 8193}, extremes...) {
			want := h.Check()
			if cluster < 1 || cluster >= h.Host {
				want = api.ErrRange
			}
			if y, e := maps.At(h, x.c, cluster); y != nil || e != want {
				t.Errorf("%+v: At(%d): %v, %d, want %d", h, cluster, y, e, want)
			}
			if y, e := maps.At(h, nil, cluster); y != nil || e != api.ErrNil {
				t.Errorf("%+v: At(%d) of nil: %v, %d", h, cluster, y, e)
			}
		}
	}
}

// A table has its header's calls.
func TestPromoted(t *testing.T) {
	for _, h := range several {
		x := opened(t, h, make([]byte, h.First()*h.Cluster()), h.First())
		got := []int64{x.Cluster(), x.Entries(), x.Guest(), x.First(), x.Least(), x.JournalAt().From, x.RefsAt().From, x.SnapsAt().From, x.TopAt().From, int64(x.Check())}
		want := []int64{h.Cluster(), h.Entries(), h.Guest(), h.First(), h.Least(), h.JournalAt().From, h.RefsAt().From, h.SnapsAt().From, h.TopAt().From, int64(h.Check())}
		b, e := x.Encode()
		wantBytes, _ := h.Encode()
		if !slices.Equal(got, want) || e != api.OK || !bytes.Equal(b, wantBytes) {
			t.Errorf("%+v: other calls than the header's", h)
		}
	}
}

// random: a file's bytes that are of any kind, but for the journal's.
func random(h header.Header, length int64, r *rand.Rand) []byte {
	b := make([]byte, length)
	r.Read(b)
	clear(b[h.JournalAt().From:h.JournalAt().To])
	return b
}

// places: clusters in which a table may stand, the top table's among them.
func places(h header.Header) []int64 {
	return []int64{h.First() - 1, h.First(), h.First() + 1, h.Host / 2, h.Host - 1}
}

// What stands in the file is read as it is.
func TestWhatIsThere(t *testing.T) {
	r := rand.New(rand.NewSource(5))
	for _, h := range several {
		b := random(h, h.Host*h.Cluster(), r)
		for _, cluster := range places(h) {
			l := entries(r, h.Cluster()/8)
			copy(b[cluster*h.Cluster():], laid(l))
			x := opened(t, h, b, cluster)
			x.compare(t, l)
			if !bytes.Equal(x.f.Bytes(), b) || x.f.Wrote() != 0 {
				t.Fatal("what is read is changed")
			}
		}
	}
}

// Set changes that entry alone, and the file not ahead of the Commit.
func TestSetAlone(t *testing.T) {
	r := rand.New(rand.NewSource(6))
	for _, h := range several {
		ahead := random(h, h.Host*h.Cluster(), r)
		for _, cluster := range places(h) {
			last := h.Cluster()/8 - 1
			for _, i := range []int64{0, 1, last / 2, last - 1, last} {
				x := opened(t, h, ahead, cluster)
				e := entry(r)
				ok(t, x.Set(i, e))
				if !bytes.Equal(x.f.Bytes(), ahead) {
					t.Fatal("the file is changed ahead of the Commit")
				}
				want := slices.Clone(ahead)
				copy(want[cluster*h.Cluster()+8*i:], laid([]maps.Entry{e}))
				got, err := x.c.Get(0, int64(len(want)))
				if err != api.OK || !bytes.Equal(got, want) {
					t.Fatalf("%+v: Set(%d) in %d changes other bytes", h, i, cluster)
				}
				if back, err := x.Get(i); back != e || err != api.OK {
					t.Fatalf("Set(%d, %+v), Get = %+v, %d", i, e, back, err)
				}
				ok(t, x.c.Commit())
				got = x.f.Bytes()
				clear(got[h.JournalAt().From:h.JournalAt().To])
				if !bytes.Equal(got, want) {
					t.Fatalf("%+v: Set(%d) in %d and Commit change other bytes", h, i, cluster)
				}
			}
		}
	}
}

// Every entry of a table, to every kind, the others as they were.
func TestSetEach(t *testing.T) {
	r := rand.New(rand.NewSource(7))
	for _, h := range several {
		x := opened(t, h, make([]byte, h.Host*h.Cluster()), h.First())
		want := make([]maps.Entry, h.Cluster()/8)
		for i := range want {
			for _, e := range []maps.Entry{{Kind: maps.Zero}, {Kind: maps.Data, Cluster: 1}, {Kind: maps.Data, Cluster: 8191, Own: true}, {}, entry(r)} {
				ok(t, x.Set(int64(i), e))
				want[i] = e
				if got, err := x.Get(int64(i)); got != e || err != api.OK {
					t.Fatalf("Set(%d, %+v), Get = %+v, %d", i, e, got, err)
				}
			}
			if i%16 == 0 || i == len(want)-1 {
				all, err := x.All()
				if err != api.OK || !slices.Equal(all, want) {
					t.Fatalf("behind Set(%d): %d, or other entries", i, err)
				}
			}
		}
		x.compare(t, want)
	}
}

// A Data may lead to any cluster that there can be: a table knows no Host.
func TestBeyondHost(t *testing.T) {
	x := opened(t, small, make([]byte, 61*512), 40)
	for _, cluster := range []int64{1, 60, 61, 62, 8191} {
		e := maps.Entry{Kind: maps.Data, Cluster: cluster}
		ok(t, x.Set(3, e))
		if got, err := x.Get(3); got != e || err != api.OK {
			t.Errorf("Get = %+v, %d, want %+v", got, err, e)
		}
	}
}

func TestRange(t *testing.T) {
	none := wrong()
	for _, h := range several {
		x := opened(t, h, make([]byte, h.Host*h.Cluster()), h.First())
		n := h.Cluster() / 8
		for _, i := range append([]int64{n, n + 1, 2 * n}, extremes...) {
			if got, e := x.Get(i); got != (maps.Entry{}) || e != api.ErrRange {
				t.Errorf("Get(%d) = %+v, %d", i, got, e)
			}
			for _, y := range []maps.Entry{{}, {Kind: maps.Zero}, {Kind: maps.Data, Cluster: 5}, none[0], none[len(none)-1]} {
				if e := x.Set(i, y); e != api.ErrRange {
					t.Errorf("Set(%d, %+v) = %d", i, y, e)
				}
			}
		}
		if x.c.Size() != 0 {
			t.Error("what is refused has changed something")
		}
		x.compare(t, make([]maps.Entry, n))
	}
}

// What is no entry isn't set.
func TestSetWrong(t *testing.T) {
	r := rand.New(rand.NewSource(8))
	b := random(small, 61*512, r)
	l := entries(r, 64)
	copy(b[40*512:], laid(l))
	x := opened(t, small, b, 40)
	for _, y := range wrong() {
		for _, i := range []int64{0, 31, 63} {
			if e := x.Set(i, y); e != api.ErrForm {
				t.Errorf("Set(%d, %+v) = %d", i, y, e)
			}
		}
	}
	if x.c.Size() != 0 {
		t.Error("what is refused has changed something")
	}
	x.compare(t, l)
}

// Bytes that are no entry: that one isn't read, and All neither; others are, and it may be set.
func TestWrongThere(t *testing.T) {
	r := rand.New(rand.NewSource(9))
	for _, v := range []uint64{2, 255, 257, 8192 * 256, own, own + 1, 1 << 62, math.MaxUint64} {
		for _, i := range []int64{0, 1, 62, 63} {
			b := random(small, 61*512, r)
			l := entries(r, 64)
			copy(b[40*512:], laid(l))
			binary.LittleEndian.PutUint64(b[40*512+8*i:], v)
			x := opened(t, small, b, 40)
			for k := range l {
				got, e := x.Get(int64(k))
				if int64(k) == i && (got != maps.Entry{} || e != api.ErrForm) || int64(k) != i && (got != l[k] || e != api.OK) {
					t.Fatalf("%d at %d: Get(%d) = %+v, %d", v, i, k, got, e)
				}
			}
			if all, e := x.All(); len(all) != 0 || e != api.ErrForm {
				t.Fatalf("%d at %d: All = %v, %d", v, i, all, e)
			}
			ok(t, x.Set(i, l[i]))
			x.compare(t, l)
		}
	}
}

// What is beyond the file's end is None; a Commit makes the file longer.
func TestShortFile(t *testing.T) {
	r := rand.New(rand.NewSource(10))
	for _, left := range []int64{-1000, 0, 3, 8, 100, 504, 511} {
		b := make([]byte, 61*512)
		l := entries(r, 64)
		for i := range l {
			if left < int64(8*i+8) {
				l[i] = maps.Entry{}
			}
		}
		copy(b[50*512:], laid(l))
		x := opened(t, small, b[:50*512+left], 50)
		x.compare(t, l)
		ok(t, x.Set(63, maps.Entry{Kind: maps.Data, Cluster: 44, Own: true}))
		l[63] = maps.Entry{Kind: maps.Data, Cluster: 44, Own: true}
		x.compare(t, l)
		ok(t, x.c.Commit())
		x.compare(t, l)
		x.again(t).compare(t, l)
	}
}

// All that a table tells is within the changes: two of one Tx are the same.
func TestTwoOfOneTx(t *testing.T) {
	x := opened(t, small, make([]byte, 61*512), 40)
	y, e := maps.At(small, x.c, 40)
	ok(t, e)
	other, e := maps.At(small, x.c, 41)
	ok(t, e)
	ok(t, x.Set(7, maps.Entry{Kind: maps.Zero}))
	ok(t, y.Set(8, maps.Entry{Kind: maps.Data, Cluster: 41, Own: true}))
	want := make([]maps.Entry, 64)
	want[7], want[8] = maps.Entry{Kind: maps.Zero}, maps.Entry{Kind: maps.Data, Cluster: 41, Own: true}
	x.compare(t, want)
	table{Table: y}.compare(t, want)
	table{Table: other}.compare(t, make([]maps.Entry, 64))
	x.again(t).compare(t, make([]maps.Entry, 64)) // other changes: they know nothing of these
}

// Behind the Commit entries are read, and not changed.
func TestCommitted(t *testing.T) {
	x := opened(t, small, make([]byte, 61*512), 40)
	want := make([]maps.Entry, 64)
	want[5] = maps.Entry{Kind: maps.Data, Cluster: 60}
	ok(t, x.Set(5, want[5]))
	ok(t, x.c.Commit())
	if e := x.Set(5, maps.Entry{}); e != api.ErrState {
		t.Error("Set", e)
	}
	if e := x.Set(64, maps.Entry{}); e != api.ErrRange {
		t.Error("Set beyond", e)
	}
	if e := x.Set(5, maps.Entry{Kind: 3}); e != api.ErrForm {
		t.Error("Set of what is none", e)
	}
	x.compare(t, want)
	x.again(t).compare(t, want)
}

// Entries that are set in any order through several changes, some of which are
// committed, some forgotten.
func TestManySets(t *testing.T) {
	none := wrong()
	for seed := range int64(40) {
		r := rand.New(rand.NewSource(seed))
		h := several[r.Intn(len(several))]
		cluster := places(h)[r.Intn(5)]
		x := opened(t, h, make([]byte, h.First()*h.Cluster()), cluster)
		want := make([]maps.Entry, h.Cluster()/8)
		for range 4 {
			ahead := slices.Clone(want)
			for range 60 {
				i, e := r.Intn(len(want)), entry(r)
				if r.Intn(5) == 0 {
					if err := x.Set(int64(i), none[r.Intn(len(none))]); err != api.ErrForm {
						t.Fatal("Set of what is none", err)
					}
					continue
				}
				ok(t, x.Set(int64(i), e))
				want[i] = e
			}
			x.compare(t, want)
			if r.Intn(3) == 0 {
				want = ahead
			} else {
				ok(t, x.c.Commit())
				x.compare(t, want)
			}
			x = x.again(t)
			x.compare(t, want)
		}
	}
}

// The file's errors come through, with nothing beside them.
func TestFileRefuses(t *testing.T) {
	for _, refuse := range []func(*disk.File){func(f *disk.File) { f.Refuse(1) }, func(f *disk.File) { f.Stop(1) }} {
		b := make([]byte, 61*512)
		l := entries(rand.New(rand.NewSource(11)), 64)
		copy(b[40*512:], laid(l))
		x := opened(t, small, b, 40)
		refuse(x.f)
		if got, e := x.Get(3); got != (maps.Entry{}) || e != api.ErrIO {
			t.Error("Get", got, e)
		}
		x.f.Stop(0)
		refuse(x.f)
		if got, e := x.All(); len(got) != 0 || e != api.ErrIO {
			t.Error("All", got, e)
		}
		x.f.Stop(0)
		refuse(x.f)
		if got, e := x.Get(64); got != (maps.Entry{}) || e != api.ErrRange {
			t.Error("Get beyond", got, e)
		}
		if e := x.Set(64, maps.Entry{}); e != api.ErrRange {
			t.Error("Set beyond", e)
		}
		if e := x.Set(3, maps.Entry{Kind: 3}); e != api.ErrForm {
			t.Error("Set of what is none", e)
		}
		x.f.Stop(0)
		x.f.Refuse(0)
		x.compare(t, l)
	}
}

// No table: nil, those that At didn't make, one whose header was taken away.
func TestNone(t *testing.T) {
	b := make([]byte, 61*512)
	without := opened(t, small, b, 40)
	without.Header = header.Header{}
	for name, x := range map[string]*maps.Table{"nil": nil, "neither": new(maps.Table), "without changes": {Header: small}, "without a header": without.Table} {
		if x.Where() != 0 {
			t.Errorf("%s: Where = %d", name, x.Where())
		}
		if l, e := x.All(); len(l) != 0 || e != api.ErrNil {
			t.Errorf("%s: All = %v, %d", name, l, e)
		}
		for _, i := range append([]int64{0, 1, 63, 64, 511}, extremes...) {
			if got, e := x.Get(i); got != (maps.Entry{}) || e != api.ErrNil {
				t.Errorf("%s: Get(%d) = %+v, %d", name, i, got, e)
			}
			for _, y := range []maps.Entry{{}, {Kind: maps.Data, Cluster: 5}, {Kind: 3}} {
				if e := x.Set(i, y); e != api.ErrNil {
					t.Errorf("%s: Set(%d, %+v) = %d", name, i, y, e)
				}
			}
		}
	}
	if without.c.Size() != 0 || !bytes.Equal(without.f.Bytes(), b) {
		t.Error("a table without a header has changed something")
	}
}

// Changes that Begin didn't make answer for themselves.
func TestBareTx(t *testing.T) {
	x, e := maps.At(small, new(tx.Tx), 40)
	ok(t, e)
	if x.Where() != 40 {
		t.Error("Where", x.Where())
	}
	if got, e := x.Get(0); got != (maps.Entry{}) || e != api.ErrNil {
		t.Error("Get", got, e)
	}
	if e := x.Set(0, maps.Entry{}); e != api.ErrNil {
		t.Error("Set", e)
	}
	if l, e := x.All(); len(l) != 0 || e != api.ErrNil {
		t.Error("All", l, e)
	}
}

// Whatever a header is made to say behind At: no call panics.
func TestHeaderChanged(t *testing.T) {
	for _, bits := range []int{math.MinInt, -1, 0, 8, 9, 10, 11, 12, 13, 63, 64, math.MaxInt} {
		for _, host := range extremes {
			x := opened(t, several[1], make([]byte, several[1].First()*512), 8191)
			x.Bits, x.Host = bits, host
			for _, i := range append([]int64{0, 63, 64, 511, 512}, extremes...) {
				x.Get(i)
				x.Set(i, maps.Entry{Kind: maps.Zero})
			}
			x.All()
		}
	}
}

// A crash in the Commit: behind a Replay all entries are as ahead, or all as they became.
func TestCrash(t *testing.T) {
	r := rand.New(rand.NewSource(12))
	for stop := 1; stop < 12; stop++ {
		b := make([]byte, 61*512)
		ahead := entries(r, 64)
		copy(b[40*512:], laid(ahead))
		x := opened(t, small, b, 40)
		want := slices.Clone(ahead)
		for range 30 {
			i := r.Intn(64)
			want[i] = entry(r)
			ok(t, x.Set(int64(i), want[i]))
		}
		x.f.Stop(stop)
		e := x.c.Commit()
		for range 20 {
			keep := make([]bool, x.f.Waiting())
			for i := range keep {
				keep[i] = r.Intn(2) == 0
			}
			f, _ := disk.New(x.f.Crash(keep...))
			y := over(t, small, f, 40)
			_, replay := y.j.Replay()
			ok(t, replay)
			got, _ := y.All()
			if !slices.Equal(got, want) && (e == api.OK || !slices.Equal(got, ahead)) {
				t.Fatalf("stopped at %d: neither all entries nor none", stop)
			}
		}
	}
}

func FuzzList(f *testing.F) {
	f.Add([]byte{0, 3, 0, 0, 0, 0, 0, 0x80, 1, 0, 0, 0, 0, 0, 0, 0, 5})
	f.Add([]byte{2, 0, 0, 0, 0, 0, 0, 0})
	f.Fuzz(func(t *testing.T, b []byte) {
		l, e := maps.List(b)
		switch e {
		case api.OK:
			back, e := maps.Bytes(l...)
			if e != api.OK || len(l) != len(b)/8 || !bytes.Equal(back, b[:len(b)/8*8]) {
				t.Errorf("List(%v) = %v, back %v, %d", b, l, back, e)
			}
		case api.ErrForm:
			if len(l) != 0 {
				t.Errorf("List(%v) = %v beside an error", b, l)
			}
		default:
			t.Errorf("List(%v): %d", b, e)
		}
	})
}
