package header_test

import (
	"bytes"
	"math"
	"math/rand"
	"slices"
	"testing"

	"fettle/api"
	"fettle/header"
)

// The signatures that the document lists.
var (
	_ func(header.Header) int64               = header.Header.Cluster
	_ func(header.Header) int64               = header.Header.Entries
	_ func(header.Header) int64               = header.Header.Guest
	_ func(header.Header) api.Ext             = header.Header.JournalAt
	_ func(header.Header) api.Ext             = header.Header.RefsAt
	_ func(header.Header) api.Ext             = header.Header.SnapsAt
	_ func(header.Header) api.Ext             = header.Header.TopAt
	_ func(header.Header) int64               = header.Header.First
	_ func(header.Header) int64               = header.Header.Least
	_ func(header.Header) api.Errno           = header.Header.Check
	_ func(header.Header) ([]byte, api.Errno) = header.Header.Encode
	_ func([]byte) (header.Header, api.Errno) = header.Decode
)

// extremes: numbers with which a sum, a product or a shift would wrap round.
var extremes = []int64{
	math.MinInt64, math.MinInt64 + 1, math.MinInt64 + 512, math.MinInt32 - 1, math.MinInt32, -api.MaxGuest, -8192, -512, -9, -1,
	math.MaxInt32 - 1, math.MaxInt32, math.MaxInt32 + 1, math.MaxUint32, math.MaxUint32 + 1, math.MaxUint32 + 401,
	1 << 61, 1 << 62, 1<<62 + 1, math.MaxInt64 - 4095, math.MaxInt64 - 511, math.MaxInt64 - 1, math.MaxInt64,
}

// The edges of each field, and what stands beside them.
var (
	bitsEdges    = append([]int64{0, 1, 8, 9, 10, 11, 12, 13, 16, 31, 32, 63, 64, 65}, extremes...)
	sizeEdges    = append([]int64{0, 1, 511, 512, 513, 1024, 1536, 4096, 4608, 65536, 1<<21 - 512, 1 << 21, 1<<21 + 1, 1<<21 + 512, 1<<24 - 512, 1<<24 - 1, 1 << 24, 1<<24 + 1, 1<<24 + 512, 1 << 25}, extremes...)
	hostEdges    = append([]int64{0, 1, 33, 34, 35, 60, 255, 256, 257, 400, 512, 513, 1023, 1024, 1025, 2047, 2048, 2049, 4095, 4096, 4097, 8191, 8192, 8193, 16384}, extremes...)
	journalEdges = append([]int64{0, 1, 20, 21, 22, 23, 24, 25, 26, 27, 28, 29, 30, 31, 58, 59, 60, 395, 396, 8191, 8192, 8193}, extremes...)
)

// base is a header with which others begin: the document's example.
var base = header.Header{Bits: 9, Size: 65536, Host: 400, Journal: 29}

// model is what the document says of a header, counted out.
type model struct {
	cluster, entries, guest, counts, first, least int64
	journal, refs, snaps, top                     api.Ext
}

func between(n, low, high int64) int64 {
	if n < low {
		return low
	}
	if n > high {
		return high
	}
	return n
}

// clusters: how many hold so many bytes, one by one.
func clusters(bytes, cluster int64) int64 {
	n := int64(0)
	for held := int64(0); held < bytes; held += cluster {
		n++
	}
	return n
}

func modelOf(h header.Header) model {
	m := model{cluster: 512}
	for bits, size := range map[int]int64{9: 512, 10: 1024, 11: 2048, 12: 4096} {
		if h.Bits == bits {
			m.cluster = size
		}
	}
	m.entries = m.cluster / 8
	m.guest = clusters(between(h.Size, 0, 16777216), m.cluster)
	m.counts = clusters(2*between(h.Host, 0, 8192), m.cluster)
	at := m.cluster
	next := func(n int64) api.Ext {
		x := api.Ext{From: at, To: at + n*m.cluster}
		at = x.To
		return x
	}
	m.journal = next(between(h.Journal, 0, 8192))
	m.refs = next(m.counts)
	m.snaps = next(1)
	m.top = next(1)
	m.first = clusters(at, m.cluster)
	m.least = clusters(512+4096+18*m.cluster+m.counts*m.cluster, m.cluster)
	return m
}

// check: the document's list, from its first error on.
func (m model) check(h header.Header) api.Errno {
	if h.Bits < 9 || h.Bits > 12 || h.Size < 512 || h.Size > 16777216 || h.Size%512 != 0 {
		return api.ErrForm
	}
	if m.guest > m.entries*m.entries || h.Host < 1 || h.Host > 8192 || h.Host*m.cluster > 4194304 {
		return api.ErrLimit
	}
	if h.Journal < m.least || h.Journal > 8192 || m.first > h.Host {
		return api.ErrForm
	}
	return api.OK
}

// compare holds all that a header says against the model.
func compare(t *testing.T, h header.Header) {
	t.Helper()
	m := modelOf(h)
	if h.Cluster() != m.cluster || h.Entries() != m.entries {
		t.Fatalf("%+v: Cluster %d, Entries %d", h, h.Cluster(), h.Entries())
	}
	if h.Guest() != m.guest {
		t.Fatalf("%+v: Guest %d, want %d", h, h.Guest(), m.guest)
	}
	if h.JournalAt() != m.journal || h.RefsAt() != m.refs || h.SnapsAt() != m.snaps || h.TopAt() != m.top {
		t.Fatalf("%+v: places %v %v %v %v, want %v %v %v %v", h, h.JournalAt(), h.RefsAt(), h.SnapsAt(), h.TopAt(), m.journal, m.refs, m.snaps, m.top)
	}
	if h.First() != m.first || h.Least() != m.least {
		t.Fatalf("%+v: First %d, Least %d, want %d, %d", h, h.First(), h.Least(), m.first, m.least)
	}
	if h.Check() != m.check(h) {
		t.Fatalf("%+v: Check %d, want %d", h, h.Check(), m.check(h))
	}
}

func TestExample(t *testing.T) {
	h := base
	if h.Cluster() != 512 || h.Entries() != 64 || h.Guest() != 128 || h.First() != 34 || h.Least() != 29 || h.Check() != api.OK {
		t.Error(h.Cluster(), h.Entries(), h.Guest(), h.First(), h.Least(), h.Check())
	}
	if x := h.RefsAt(); x != (api.Ext{From: 30 * 512, To: 32 * 512}) {
		t.Error("the counts", x)
	}
	if h.JournalAt() != (api.Ext{From: 512, To: 30 * 512}) || h.SnapsAt() != (api.Ext{From: 32 * 512, To: 33 * 512}) || h.TopAt() != (api.Ext{From: 33 * 512, To: 34 * 512}) {
		t.Error("places", h.JournalAt(), h.SnapsAt(), h.TopAt())
	}
}

func TestConstants(t *testing.T) {
	if header.Magic != 0x4C544546 || header.SnapSize != 32 {
		t.Error(header.Magic, header.SnapSize)
	}
}

// The fields are taken at their edges and extremes, two by two, all else being right.
func TestEdgesOfTwoFields(t *testing.T) {
	set := func(h header.Header, field int, v int64) header.Header {
		switch field {
		case 0:
			h.Bits = int(v)
		case 1:
			h.Size = v
		case 2:
			h.Host = v
		case 3:
			h.Journal = v
		}
		return h
	}
	edges := [][]int64{bitsEdges, sizeEdges, hostEdges, journalEdges}
	for a := range edges {
		for b := range a {
			for _, x := range edges[a] {
				for _, y := range edges[b] {
					compare(t, set(set(base, a, x), b, y))
				}
			}
		}
	}
}

// All extremes at once, in all four fields.
func TestExtremes(t *testing.T) {
	few := []int64{math.MinInt64, -1, 0, 9, 12, 512, 8192, 16777216, math.MaxUint32 + 1, math.MaxInt64}
	for _, bits := range few {
		for _, size := range few {
			for _, host := range few {
				for _, journal := range few {
					compare(t, header.Header{Bits: int(bits), Size: size, Host: host, Journal: journal, Backed: true})
				}
			}
		}
	}
	compare(t, header.Header{})
}

func TestEveryHost(t *testing.T) {
	for bits := 8; bits <= 13; bits++ {
		for host := int64(-2); host <= 8200; host++ {
			compare(t, header.Header{Bits: bits, Size: 4096, Host: host, Journal: 60})
		}
	}
}

func TestEveryJournal(t *testing.T) {
	for bits := 9; bits <= 12; bits++ {
		for journal := int64(-2); journal <= 8200; journal++ {
			compare(t, header.Header{Bits: bits, Size: 4096, Host: 1024, Journal: journal})
		}
	}
}

func TestEverySize(t *testing.T) {
	for size := int64(-3); size <= 9000; size++ {
		for bits := 9; bits <= 12; bits++ {
			compare(t, header.Header{Bits: bits, Size: size, Host: 500, Journal: 60})
		}
	}
}

// How many clusters a journal must have, the document's words put into figures.
func TestLeast(t *testing.T) {
	for _, x := range []struct {
		bits        int
		host, least int64
	}{
		{9, 400, 2 + 18 + 9}, {9, 256, 1 + 18 + 9}, {9, 257, 2 + 18 + 9}, {9, 8192, 32 + 18 + 9},
		{10, 400, 1 + 18 + 5}, {10, 4096, 8 + 18 + 5}, {11, 2048, 2 + 18 + 3}, {12, 1024, 1 + 18 + 2},
		{9, 0, 0 + 18 + 9}, {9, -5, 0 + 18 + 9}, {9, math.MaxInt64, 32 + 18 + 9}, {13, 400, 2 + 18 + 9}, {math.MinInt, 400, 2 + 18 + 9},
	} {
		h := header.Header{Bits: x.bits, Size: 4096, Host: x.host}
		if h.Least() != x.least {
			t.Errorf("Bits %d, Host %d: Least %d, want %d", x.bits, x.host, h.Least(), x.least)
		}
	}
}

func TestCheck(t *testing.T) {
	form, limit, ok := api.ErrForm, api.ErrLimit, api.OK
	for _, x := range []struct {
		h    header.Header
		want api.Errno
	}{
		{header.Header{}, form},
		{header.Header{Bits: 8, Size: 65536, Host: 400, Journal: 29}, form},
		{header.Header{Bits: 13, Size: 65536, Host: 400, Journal: 29}, form},
		{header.Header{Bits: 9, Size: 0, Host: 400, Journal: 29}, form},
		{header.Header{Bits: 9, Size: 511, Host: 400, Journal: 29}, form},
		{header.Header{Bits: 9, Size: 512, Host: 400, Journal: 29}, ok},
		{header.Header{Bits: 9, Size: 513, Host: 400, Journal: 29}, form},
		{header.Header{Bits: 12, Size: 512, Host: 400, Journal: 21}, ok},
		// the guest's clusters: as many as two tables, one in the other, tell of
		{header.Header{Bits: 9, Size: 1 << 21, Host: 400, Journal: 29}, ok},
		{header.Header{Bits: 9, Size: 1<<21 + 512, Host: 400, Journal: 29}, limit},
		{header.Header{Bits: 9, Size: 1 << 24, Host: 400, Journal: 29}, limit},
		{header.Header{Bits: 10, Size: 1 << 24, Host: 400, Journal: 24}, ok},
		{header.Header{Bits: 10, Size: 1<<24 + 512, Host: 400, Journal: 24}, form},
		{header.Header{Bits: 9, Size: 1<<24 + 512, Host: 400, Journal: 29}, form},
		// the file's clusters
		{header.Header{Bits: 9, Size: 512, Host: 0, Journal: 29}, limit},
		{header.Header{Bits: 9, Size: 512, Host: -1, Journal: 29}, limit},
		{header.Header{Bits: 9, Size: 512, Host: 8192, Journal: 59}, ok},
		{header.Header{Bits: 9, Size: 512, Host: 8193, Journal: 59}, limit},
		{header.Header{Bits: 10, Size: 512, Host: 4096, Journal: 31}, ok},
		{header.Header{Bits: 10, Size: 512, Host: 4097, Journal: 60}, limit},
		{header.Header{Bits: 11, Size: 512, Host: 2048, Journal: 23}, ok},
		{header.Header{Bits: 11, Size: 512, Host: 2049, Journal: 60}, limit},
		{header.Header{Bits: 12, Size: 512, Host: 1024, Journal: 21}, ok},
		{header.Header{Bits: 12, Size: 512, Host: 1025, Journal: 60}, limit},
		// the journal's
		{header.Header{Bits: 9, Size: 512, Host: 400, Journal: 28}, form},
		{header.Header{Bits: 9, Size: 512, Host: 400, Journal: 395}, ok}, // 1 + 395 + 2 + 1 + 1
		{header.Header{Bits: 9, Size: 512, Host: 400, Journal: 396}, form},
		{header.Header{Bits: 9, Size: 512, Host: 8192, Journal: 8157}, ok},
		{header.Header{Bits: 9, Size: 512, Host: 8192, Journal: 8158}, form},
		{header.Header{Bits: 9, Size: 512, Host: 8192, Journal: 8193}, form},
		{header.Header{Bits: 9, Size: 512, Host: 32, Journal: 28}, ok},
		{header.Header{Bits: 9, Size: 512, Host: 31, Journal: 28}, form},
		// the first that applies
		{header.Header{Bits: 8, Size: 512, Host: 0, Journal: 0}, form},
		{header.Header{Bits: 9, Size: 513, Host: 0, Journal: 0}, form},
		{header.Header{Bits: 9, Size: 512, Host: 0, Journal: 0}, limit},
		{header.Header{Bits: 9, Size: 1 << 24, Host: 400, Journal: 0}, limit},
	} {
		for _, backed := range []bool{false, true} {
			x.h.Backed = backed
			if got := x.h.Check(); got != x.want {
				t.Errorf("%+v: Check %d, want %d", x.h, got, x.want)
			}
		}
	}
}

func encoded(t *testing.T, h header.Header) []byte {
	t.Helper()
	b, e := h.Encode()
	if e != api.OK {
		t.Fatalf("%+v: Encode %d", h, e)
	}
	return b
}

func TestEncodedBytes(t *testing.T) {
	h := header.Header{Bits: 10, Size: 0x123400, Host: 0xABC, Journal: 0x321, Backed: true}
	want := make([]byte, 1024)
	copy(want, []byte{
		0x46, 0x45, 0x54, 0x4C,
		10, 0, 0, 0,
		0x00, 0x34, 0x12, 0, 0, 0, 0, 0,
		0xBC, 0x0A, 0, 0,
		0x21, 0x03, 0, 0,
		1, 0, 0, 0,
	})
	if b := encoded(t, h); !bytes.Equal(b, want) {
		t.Error(b[:32], len(b))
	}
	h.Backed = false
	want[24] = 0
	if b := encoded(t, h); !bytes.Equal(b, want) {
		t.Error("not backed", b[:32], len(b))
	}
}

// right: headers that are, of all kinds.
func right() []header.Header {
	var out []header.Header
	for bits := 9; bits <= 12; bits++ {
		for _, size := range []int64{512, 1024, 1536, 4096, 4608, 65536, 1<<21 - 512, 1 << 21, 1<<21 + 512, 1<<24 - 512, 1 << 24} {
			for _, host := range []int64{32, 33, 34, 60, 255, 256, 257, 400, 1023, 1024, 1025, 2048, 2049, 4096, 4097, 8191, 8192} {
				for _, journal := range []int64{21, 22, 23, 24, 25, 28, 29, 30, 31, 59, 60, 255, 256, 395, 396, 1019, 4084, 8157} {
					h := header.Header{Bits: bits, Size: size, Host: host, Journal: journal}
					if modelOf(h).check(h) == api.OK {
						out = append(out, h)
						h.Backed = true
						out = append(out, h)
					}
				}
			}
		}
	}
	return out
}

func TestEncodedIsDecoded(t *testing.T) {
	list := right()
	if len(list) < 1000 {
		t.Fatal("too few headers", len(list))
	}
	from := map[string]header.Header{}
	for _, h := range list {
		b := encoded(t, h)
		if int64(len(b)) != h.Cluster() {
			t.Fatalf("%+v: %d bytes", h, len(b))
		}
		if x, e := header.Decode(b); e != api.OK || x != h {
			t.Fatalf("%+v: decoded as %+v, %d", h, x, e)
		}
		if x, there := from[string(b)]; there && x != h {
			t.Fatalf("%+v and %+v have the same bytes", x, h)
		}
		from[string(b)] = h
	}
}

// What stands behind the header's cluster is no part of it.
func TestDecodeOfMore(t *testing.T) {
	for _, h := range []header.Header{base, {Bits: 12, Size: 512, Host: 1024, Journal: 21, Backed: true}} {
		b := encoded(t, h)
		for _, more := range [][]byte{{0}, {7}, bytes.Repeat([]byte{0xFF}, 5000)} {
			if x, e := header.Decode(slices.Concat(b, more)); e != api.OK || x != h {
				t.Errorf("%+v: decoded as %+v, %d", h, x, e)
			}
		}
	}
}

func TestEncodeRefused(t *testing.T) {
	for _, h := range []header.Header{
		{}, {Bits: 8, Size: 512, Host: 400, Journal: 29}, {Bits: 9, Size: 1 << 24, Host: 400, Journal: 29},
		{Bits: 9, Size: 512, Host: 400, Journal: 28}, {Bits: math.MaxInt, Size: math.MaxInt64, Host: math.MaxInt64, Journal: math.MaxInt64},
		{Bits: 9, Size: 65536, Host: 1<<32 + 400, Journal: 29}, {Bits: 9, Size: 65536, Host: 400, Journal: 1<<32 + 29}, {Bits: 1<<32 + 9, Size: 65536, Host: 400, Journal: 29},
	} {
		if b, e := h.Encode(); e == api.OK || e != h.Check() || len(b) != 0 {
			t.Errorf("%+v: Encode %d, %d bytes", h, e, len(b))
		}
	}
}

func TestDecodeTooShort(t *testing.T) {
	for _, h := range []header.Header{base, {Bits: 12, Size: 512, Host: 1024, Journal: 21}} {
		b := encoded(t, h)
		for n := range b {
			if x, e := header.Decode(b[:n]); e != api.ErrRange || x != (header.Header{}) {
				t.Fatalf("%d of %d bytes: %+v, %d", n, len(b), x, e)
			}
		}
	}
	if x, e := header.Decode(nil); e != api.ErrRange || x != (header.Header{}) {
		t.Error("nil", x, e)
	}
}

// field: bytes with another number of so many bytes at a place.
func field(b []byte, at, size int, v uint64) []byte {
	b = slices.Clone(b)
	for i := range size {
		b[at+i] = byte(v >> (8 * i))
	}
	return b
}

// wrong is a fault in bytes that are right else, and what it is answered by.
type wrong struct {
	name string
	make func(b []byte) []byte
	want api.Errno
}

// wrongs: one fault of each kind, in the order in which they are told.
func wrongs() []wrong {
	put := func(at, size int, v uint64) func([]byte) []byte {
		return func(b []byte) []byte { return field(b, at, size, v) }
	}
	return []wrong{
		{"27 bytes", func(b []byte) []byte { return slices.Clone(b[:min(len(b), 27)]) }, api.ErrRange},
		{"magic", put(0, 4, 0x4C544547), api.ErrMagic},
		{"bits 13", put(4, 4, 13), api.ErrForm},
		{"bits 2^32 - 1", put(4, 4, math.MaxUint32), api.ErrForm},
		{"size too great", put(8, 8, 1<<24+1), api.ErrForm},
		{"size 2^64 - 1", put(8, 8, math.MaxUint64), api.ErrForm},
		{"size 2^63 and more", put(8, 8, 1<<63+65536), api.ErrForm},
		{"backed 2", put(24, 4, 2), api.ErrForm},
		{"backed 2^32 - 1", put(24, 4, math.MaxUint32), api.ErrForm},
		{"backed 256", put(24, 4, 256), api.ErrForm},
		{"bits 8", put(4, 4, 8), api.ErrForm},
		{"bits 0", put(4, 4, 0), api.ErrForm},
		{"size 0", put(8, 8, 0), api.ErrForm},
		{"size 513", put(8, 8, 513), api.ErrForm},
		{"guest's clusters", put(8, 8, 1<<24), api.ErrLimit},
		{"host 0", put(16, 4, 0), api.ErrLimit},
		{"host 8193", put(16, 4, 8193), api.ErrLimit},
		{"host 2^32 - 1", put(16, 4, math.MaxUint32), api.ErrLimit},
		{"journal 28", put(20, 4, 28), api.ErrForm},
		{"journal 396", put(20, 4, 396), api.ErrForm},
		{"journal 2^32 - 1", put(20, 4, math.MaxUint32), api.ErrForm},
		{"a byte fewer", func(b []byte) []byte { return slices.Clone(b[:min(len(b), 511)]) }, api.ErrRange},
		{"a byte behind the fields", func(b []byte) []byte {
			b = slices.Clone(b)
			if len(b) > 28 {
				b[28] = 1
			}
			return b
		}, api.ErrForm},
	}
}

func TestDecodeWrong(t *testing.T) {
	b := encoded(t, base)
	for _, w := range wrongs() {
		if x, e := header.Decode(w.make(b)); e != w.want || x != (header.Header{}) {
			t.Errorf("%s: %+v, %d, want %d", w.name, x, e, w.want)
		}
	}
}

// meet: do two faults turn a byte of one field? Then the second would undo the first.
func meet(b []byte, first, second wrong) bool {
	x, y := first.make(b), second.make(b)
	for i := 0; i < 28 && i < len(x) && i < len(y); i++ {
		if x[i] != b[i] && y[i] != b[i] {
			return true
		}
	}
	return false
}

// Of two faults the one that the document names first is told.
func TestDecodeOrder(t *testing.T) {
	b := encoded(t, base)
	list := wrongs()
	for i, first := range list {
		for _, second := range list[i+1:] {
			if meet(b, first, second) {
				continue
			}
			// What is cut off goes last: the other fault needs its place.
			both := first.make(second.make(b))
			if len(second.make(b)) < len(b) {
				both = second.make(first.make(b))
			}
			if x, e := header.Decode(both); e != first.want || x != (header.Header{}) {
				t.Errorf("%s and %s: %+v, %d, want %d", first.name, second.name, x, e, first.want)
			}
		}
	}
}

// Check's errors come ahead of the bytes that lack, these ahead of one that isn't 0.
func TestDecodeOrderAtTheEnd(t *testing.T) {
	b := encoded(t, base)
	b[40] = 1
	if _, e := header.Decode(b[:511]); e != api.ErrRange {
		t.Error("short, and a byte that isn't 0:", e)
	}
	if _, e := header.Decode(field(b, 16, 4, 0)[:28]); e != api.ErrLimit {
		t.Error("short, and Host 0:", e)
	}
	if _, e := header.Decode(field(b, 20, 4, 0)[:28]); e != api.ErrForm {
		t.Error("short, and Journal 0:", e)
	}
	if _, e := header.Decode(field(b, 0, 4, 0)[:27]); e != api.ErrRange {
		t.Error("27 bytes, and no Magic:", e)
	}
}

// one: bytes are decoded as a header that has just these bytes, or not at all.
func one(t *testing.T, b []byte) (header.Header, api.Errno) {
	t.Helper()
	ahead := slices.Clone(b)
	h, e := header.Decode(b)
	if !bytes.Equal(ahead, b) {
		t.Fatal("Decode changed what it was given")
	}
	if e != api.OK {
		if h != (header.Header{}) {
			t.Fatalf("error %d, and %+v", e, h)
		}
		return h, e
	}
	if again := encoded(t, h); !bytes.HasPrefix(b, again) {
		t.Fatalf("%+v is decoded from other bytes than it is encoded as", h)
	}
	return h, e
}

// Any one bit of a right cluster that is turned: refused, or another header.
func TestEveryBitTurned(t *testing.T) {
	for _, h := range []header.Header{
		base, {Bits: 9, Size: 65536, Host: 400, Journal: 29, Backed: true}, {Bits: 10, Size: 1 << 24, Host: 4096, Journal: 31},
		{Bits: 11, Size: 8192, Host: 1024, Journal: 64}, {Bits: 12, Size: 512, Host: 1024, Journal: 21, Backed: true},
	} {
		b := encoded(t, h)
		for bit := range 8 * len(b) {
			b[bit/8] ^= 1 << (bit % 8)
			x, e := one(t, b)
			if x == h {
				t.Fatalf("%+v: bit %d turned is not seen", h, bit)
			}
			if bit >= 8*28 && e != api.ErrForm {
				t.Fatalf("%+v: bit %d turned: %d", h, bit, e)
			}
			if bit < 32 && e != api.ErrMagic {
				t.Fatalf("%+v: bit %d of the Magic turned: %d", h, bit, e)
			}
			b[bit/8] ^= 1 << (bit % 8)
		}
	}
}

// Every byte of a right cluster becomes each other one.
func TestEveryByte(t *testing.T) {
	b := encoded(t, base)
	for i, right := range slices.Clone(b) {
		for v := range 256 {
			b[i] = byte(v)
			if x, _ := one(t, b); (x == base) != (b[i] == right) {
				t.Fatalf("byte %d is %d: %+v", i, v, x)
			}
		}
		b[i] = right
	}
}

// decodeModel: the document's list, from its first error on, with numbers as they stand.
func decodeModel(b []byte) api.Errno {
	number := func(at, size int) uint64 {
		v := uint64(0)
		for i := range size {
			v |= uint64(b[at+i]) << (8 * i)
		}
		return v
	}
	if len(b) < 28 {
		return api.ErrRange
	}
	if number(0, 4) != 0x4C544546 {
		return api.ErrMagic
	}
	if number(4, 4) > 12 || number(8, 8) > 16777216 || number(24, 4) > 1 {
		return api.ErrForm
	}
	h := header.Header{Bits: int(number(4, 4)), Size: int64(number(8, 8)), Host: int64(number(16, 4)), Journal: int64(number(20, 4))}
	m := modelOf(h)
	if e := m.check(h); e != api.OK {
		return e
	}
	if int64(len(b)) < m.cluster {
		return api.ErrRange
	}
	if !bytes.Equal(b[28:m.cluster], make([]byte, m.cluster-28)) {
		return api.ErrForm
	}
	return api.OK
}

// anyBytes: bytes of any kind, most often near to a header's.
func anyBytes(r *rand.Rand) []byte {
	b := make([]byte, []int{0, 27, 28, 29, 511, 512, 513, 1024, 2048, 4095, 4096, 5000}[r.Intn(12)])
	if r.Intn(4) == 0 {
		r.Read(b)
		return b
	}
	near := func(list []int64) uint64 { return uint64(list[r.Intn(len(list))]) }
	whole := make([]byte, 28)
	whole = field(whole, 0, 4, header.Magic+uint64(r.Intn(20)/19))
	whole = field(whole, 4, 4, uint64(8+r.Intn(6)))
	whole = field(whole, 8, 8, uint64(512*r.Intn(8000)))
	whole = field(whole, 16, 4, uint64(r.Intn(1200)))
	whole = field(whole, 20, 4, uint64(15+r.Intn(60)))
	whole = field(whole, 24, 4, uint64(r.Intn(21)/10))
	switch r.Intn(6) {
	case 0:
		whole = field(whole, 8, 8, near(sizeEdges))
	case 1:
		whole = field(whole, 16, 4, near(hostEdges))
	case 2:
		whole = field(whole, 20, 4, near(journalEdges))
	case 3:
		if len(b) > 28 {
			b[28+r.Intn(len(b)-28)] = byte(r.Intn(2))
		}
	}
	copy(b, whole)
	return b
}

func TestAnyBytes(t *testing.T) {
	r := rand.New(rand.NewSource(7))
	seen := map[api.Errno]int{}
	for range 60000 {
		b := anyBytes(r)
		_, e := one(t, b)
		if want := decodeModel(b); e != want {
			t.Fatalf("%v (%d bytes): %d, want %d", b[:min(28, len(b))], len(b), e, want)
		}
		seen[e]++
	}
	for _, e := range []api.Errno{api.OK, api.ErrRange, api.ErrMagic, api.ErrForm, api.ErrLimit} {
		if seen[e] < 100 {
			t.Errorf("error %d was seen %d times alone", e, seen[e])
		}
	}
}

// What is encoded is new memory each time, what is decoded isn't kept.
func TestNewMemory(t *testing.T) {
	a, b := encoded(t, base), encoded(t, base)
	clear(a)
	if x, e := header.Decode(b); e != api.OK || x != base {
		t.Error("two answers share memory")
	}
	h, _ := header.Decode(b)
	clear(b)
	if h != base || !bytes.Equal(encoded(t, h), encoded(t, base)) {
		t.Error("what was handed in is kept")
	}
}

// The spare room of a list that is handed in is neither read nor changed.
func TestSpareRoom(t *testing.T) {
	room := encoded(t, base)
	room[511] = 9
	if _, e := header.Decode(room[:511]); e != api.ErrRange {
		t.Error("the spare room is read:", e)
	}
	if _, e := header.Decode(room[:27]); e != api.ErrRange {
		t.Error("the spare room is read:", e)
	}
	room = append(encoded(t, base), 9)
	if x, e := header.Decode(room[:512]); e != api.OK || x != base || room[512] != 9 {
		t.Error("the spare room is read or changed:", e)
	}
}

func FuzzDecode(f *testing.F) {
	b, _ := base.Encode()
	f.Add(b)
	f.Add(b[:28])
	f.Add([]byte{})
	f.Fuzz(func(t *testing.T, b []byte) {
		if _, e := one(t, b); e != decodeModel(b) {
			t.Errorf("%d, want %d", e, decodeModel(b))
		}
	})
}
