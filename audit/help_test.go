package audit_test

import (
	"bytes"
	"cmp"
	"encoding/binary"
	"hash/crc32"
	"math/rand"
	"slices"
	"testing"

	"fettle/api"
	"fettle/audit"
	"fettle/header"
	"fettle/image"
	"fettle/snapshot"
)

// The signatures that the document lists.
var (
	_ func([]byte) (audit.Info, api.Errno) = audit.Check
	_ func(audit.Info, int64) []image.Spot = audit.Info.Spots
	_ func(audit.Info) int                 = audit.Info.Used
	_                                      = audit.Info{Head: header.Header{}, Snaps: []snapshot.Snap{}, Role: []int{}, Refs: []audit.Ref{{Cluster: int64(1), At: image.Spot{}}}}
)

func ok(t *testing.T, e api.Errno) {
	t.Helper()
	if e != api.OK {
		t.Fatal("error", e)
	}
}

func pattern(n int, seed int64) []byte {
	b := make([]byte, n)
	rand.New(rand.NewSource(seed)).Read(b)
	return b
}

// fitted: a header with the least journal that it may have.
func fitted(bits int, size, host int64, backed bool) header.Header {
	h := header.Header{Bits: bits, Size: size, Host: host, Backed: backed}
	h.Journal = h.Least()
	return h
}

// kinds: images of all sizes of clusters: disks of one table and of several, that
// end within a cluster and with one; counts that end within their last cluster
// and with it.
func kinds(backed bool) []header.Header {
	return []header.Header{
		fitted(9, 65536, 512, backed),
		fitted(9, 70*512, 300, backed),
		fitted(10, 140*1024+512, 420, backed),
		fitted(11, 9*2048+1536, 120, backed),
		fitted(12, 12*4096-512, 110, backed),
		fitted(9, 512, 90, backed),
	}
}

// same: is one what the other is? Nil and empty lists are one.
func same(a, b audit.Info) bool {
	return a.Head == b.Head && slices.Equal(a.Snaps, b.Snaps) && slices.Equal(a.Role, b.Role) && slices.Equal(a.Refs, b.Refs)
}

// none: is it the zero value, as beside an error?
func none(x audit.Info) bool {
	return same(x, audit.Info{})
}

// wants: Check answers an error, and nothing beside it.
func wants(t *testing.T, what string, b []byte, want api.Errno) {
	t.Helper()
	ahead := bytes.Clone(b)
	x, e := audit.Check(b)
	if e != want || want != api.OK && !none(x) {
		t.Errorf("%s: error %d, not %d; %+v", what, e, want, x)
	}
	if !bytes.Equal(b, ahead) {
		t.Errorf("%s: what was handed in is changed", what)
	}
}

// stop is an error by which the plain audit is left.
type stop api.Errno

func must(holds bool, e api.Errno) {
	if !holds {
		panic(stop(e))
	}
}

// plain is the chapter once more, on bytes alone: in its words' order, left at
// the first error.
type plain struct {
	audit.Info
	b                                     []byte
	cluster, entries, guest, counts, rows int64
	first                                 int64
	own                                   []int64
	times                                 []int
}

// byWords: what Check must answer.
func byWords(b []byte) (x audit.Info, e api.Errno) {
	p := &plain{b: b}
	e = p.until(p.heads, p.signs, p.slots, p.refers, p.counted)
	if e != api.OK {
		return audit.Info{}, e
	}
	return p.Info, api.OK
}

func (p *plain) until(steps ...func()) (e api.Errno) {
	defer func() {
		if s := recover(); s != nil {
			e = api.Errno(s.(stop))
		}
	}()
	for _, step := range steps {
		step()
	}
	return api.OK
}

func (p *plain) heads() {
	h, e := header.Decode(p.b)
	must(e == api.OK, e)
	must(len(p.b) <= 4194304, api.ErrBig)
	p.Head = h
	p.cluster = 1 << h.Bits
	p.entries = p.cluster / 8
	p.guest = (h.Size + p.cluster - 1) / p.cluster
	p.counts = (1 + h.Journal) * p.cluster
	p.rows = p.counts + (2*h.Host+p.cluster-1)/p.cluster*p.cluster
	p.first = p.rows/p.cluster + 2
	must(int64(len(p.b)) >= p.first*p.cluster, api.ErrRange)
}

// signs: the journal's sign, and its body.
func (p *plain) signs() {
	part := p.b[p.cluster:p.counts]
	u32 := func(at int) uint32 { return binary.LittleEndian.Uint32(part[at:]) }
	room := len(part) - 512
	count, length := int(u32(12)), int(u32(16))
	if u32(0) != 0x314A5446 || u32(24) != crc32.ChecksumIEEE(part[:24]) || slices.Max(part[28:512]) != 0 || length > room || count > room/12 {
		return
	}
	body := part[512 : 512+length]
	if u32(20) != crc32.ChecksumIEEE(body) {
		return
	}
	for range count {
		if len(body) < 12 {
			return
		}
		at, n := binary.LittleEndian.Uint64(body), uint64(binary.LittleEndian.Uint32(body[8:]))
		body = body[12:]
		if n > uint64(len(body)) || at > 4194304 || at+n > 4194304 {
			return
		}
		if n > 0 && at < uint64(p.counts) && at+n > uint64(p.cluster) {
			return
		}
		body = body[n:]
	}
	must(len(body) != 0 || count == 0, api.ErrState)
}

// slots: the rows.
func (p *plain) slots() {
	list, e := snapshot.Parse(p.b[p.rows : p.rows+p.cluster])
	must(e == api.OK, e)
	p.Snaps = list
}

func (p *plain) number(table, i int64) uint64 {
	return binary.LittleEndian.Uint64(p.b[table*p.cluster+8*i:])
}

// read: all entries of a table are some.
func (p *plain) read(table int64) {
	for i := range p.entries {
		v := p.number(table, i)
		n := v << 1 >> 9
		must(v <= 1 || v&255 == 0 && n >= 1 && n <= 8191, api.ErrForm)
	}
}

func (p *plain) refer(n int64, role int, table, i int64) (met bool) {
	must(n >= p.first && n <= p.Head.Host-1, api.ErrRange)
	must((n+1)*p.cluster <= int64(len(p.b)), api.ErrRange)
	met = p.Role[n] == role
	must(p.Role[n] == 0 || met && role != audit.Top, api.ErrCross)
	p.Role[n] = role
	p.times[n]++
	p.Refs = append(p.Refs, audit.Ref{Cluster: n, At: image.Spot{Table: table, Index: i}})
	return met
}

func (p *plain) refers() {
	p.Role, p.times = make([]int, p.Head.Host), make([]int, p.Head.Host)
	for n := range p.first {
		p.Role[n], p.times[n] = audit.Fixed, 1
	}
	for _, s := range p.Snaps {
		p.refer(s.Cluster, audit.Top, 0, int64(s.Slot))
	}
	p.top(p.first - 1)
	for _, s := range p.Snaps {
		p.top(s.Cluster)
	}
	slices.SortFunc(p.Refs, func(a, b audit.Ref) int {
		return cmp.Or(cmp.Compare(a.Cluster, b.Cluster), cmp.Compare(a.At.Table, b.At.Table), cmp.Compare(a.At.Index, b.At.Index))
	})
}

func (p *plain) top(table int64) {
	p.read(table)
	for i := range p.entries {
		v := p.number(table, i)
		if v == 0 {
			continue
		}
		must(v != 1, api.ErrForm)
		must(i*p.entries < p.guest, api.ErrRange)
		if !p.refer(p.led(v), audit.Inner, table, i) {
			p.inner(p.led(v), i*p.entries)
		}
	}
}

func (p *plain) inner(table, from int64) {
	p.read(table)
	for i := range p.entries {
		v := p.number(table, i)
		must(v == 0 || from+i < p.guest, api.ErrRange)
		if v > 1 {
			p.refer(p.led(v), audit.Held, table, i)
		}
	}
}

// led: the cluster that a number leads to.
func (p *plain) led(v uint64) int64 {
	n := int64(v << 1 >> 9)
	if v>>63 == 1 {
		p.own = append(p.own, n)
	}
	return n
}

func (p *plain) counted() {
	for n, times := range p.times {
		must(int(binary.LittleEndian.Uint16(p.b[p.counts+2*int64(n):])) == times, api.ErrCount)
	}
	for _, n := range p.own {
		must(p.times[n] == 1, api.ErrCount)
	}
	for _, c := range p.b[p.counts+2*p.Head.Host : p.rows] {
		must(c == 0, api.ErrForm)
	}
}

// recount: an image whose references are all there gets the counts that they ask
// for; false: they aren't, or no count holds so many.
func recount(b []byte) bool {
	p := &plain{b: b}
	if p.until(p.heads, p.signs, p.slots, p.refers) != api.OK || slices.Max(p.times) > 65535 {
		return false
	}
	for n, times := range p.times {
		binary.LittleEndian.PutUint16(b[p.counts+2*int64(n):], uint16(times))
	}
	return true
}

// looked: Check's answer, held against the plain one.
func looked(t *testing.T, b []byte) (audit.Info, api.Errno) {
	t.Helper()
	want, e := byWords(b)
	x, got := audit.Check(b)
	if got != e || !same(x, want) {
		t.Fatalf("Check: %d, not %d; %+v, not %+v", got, e, x, want)
	}
	return x, e
}

// Where things stand in the image that is laid by hand.
const (
	countsAt = 30 * 512
	rowsAt   = 32 * 512
	topAt    = 33 * 512
)

// put: a number of 8 bytes stands at a place.
func put(b []byte, at int, v uint64) {
	binary.LittleEndian.PutUint64(b[at:], v)
}

// data: the number of an entry that leads to a cluster; owned: and is Own.
func data(n uint64) uint64  { return n << 8 }
func owned(n uint64) uint64 { return n<<8 | 1<<63 }

// entry: where an entry of the table in a cluster stands.
func entry(table, i int) int { return 512*table + 8*i }

// laid: an image with clusters of 512 bytes, laid by hand, of 44 clusters: a disk of 100
// clusters, in a file of at most 400, a journal of 29, so that First is 34.
//
//	34, 35: the active disk's tables      36, 37, 41, 42: guest's bytes
//	38, 39, 43: the top tables of the rows 0, 2 and 5
//	40: the first table of the rows 0 and 2; 35 is the second one of row 2, too
func laid() []byte {
	b := make([]byte, 44*512)
	copy(b, "FETL")
	b[4], b[9], b[16], b[17], b[20] = 9, 200, 400&255, 400>>8, 29
	for n := range 34 {
		b[countsAt+2*n] = 1
	}
	for n, times := range map[int]byte{34: 1, 35: 2, 36: 1, 37: 2, 38: 1, 39: 1, 40: 2, 41: 1, 42: 1, 43: 1} {
		b[countsAt+2*n] = times
	}
	for slot, s := range map[int]snapshot.Snap{0: {Name: "a", Cluster: 38, Id: 7}, 2: {Name: "0123456789_-bcde", Cluster: 39, Id: 3}, 5: {Name: "c", Cluster: 43, Id: 1 << 63}} {
		copy(b[rowsAt+32*slot:], s.Name)
		put(b, rowsAt+32*slot+16, uint64(s.Cluster))
		put(b, rowsAt+32*slot+24, s.Id)
	}
	put(b, entry(33, 0), owned(34))
	put(b, entry(33, 1), data(35))
	put(b, entry(34, 0), owned(36))
	put(b, entry(34, 1), data(37))
	put(b, entry(34, 63), 1)
	put(b, entry(35, 35), owned(42))
	put(b, entry(35, 34), 1)
	put(b, entry(38, 0), data(40))
	put(b, entry(39, 0), data(40))
	put(b, entry(39, 1), data(35))
	put(b, entry(40, 1), data(37))
	put(b, entry(40, 5), data(41))
	for _, n := range []int{36, 37, 41, 42} {
		copy(b[512*n:], pattern(512, int64(n)))
	}
	return b
}

// laidInfo: what is told of it.
func laidInfo() audit.Info {
	x := audit.Info{
		Head: header.Header{Bits: 9, Size: 51200, Host: 400, Journal: 29},
		Snaps: []snapshot.Snap{
			{Slot: 0, Name: "a", Cluster: 38, Id: 7}, {Slot: 2, Name: "0123456789_-bcde", Cluster: 39, Id: 3}, {Slot: 5, Name: "c", Cluster: 43, Id: 1 << 63},
		},
		Role: make([]int, 400),
	}
	for n := range 34 {
		x.Role[n] = 1
	}
	copy(x.Role[34:], []int{3, 3, 4, 4, 2, 2, 3, 4, 4, 2})
	for _, r := range [][3]int64{
		{34, 33, 0}, {35, 33, 1}, {35, 39, 1}, {36, 34, 0}, {37, 34, 1}, {37, 40, 1}, {38, 0, 0}, {39, 0, 2},
		{40, 38, 0}, {40, 39, 0}, {41, 40, 5}, {42, 35, 35}, {43, 0, 5},
	} {
		x.Refs = append(x.Refs, audit.Ref{Cluster: r[0], At: image.Spot{Table: r[1], Index: r[2]}})
	}
	return x
}
