package parts_test

import (
	"bytes"
	"encoding/binary"
	"math/rand"
	"slices"
	"testing"

	"fettle/api"
	"fettle/extent"
	"fettle/gpt"
	"fettle/mbr"
	"fettle/parts"
)

// The signatures that the document lists.
var (
	_ func(api.Disk) (parts.Map, api.Errno)                                 = parts.Parse
	_ func(parts.Map) (api.Part, bool)                                      = parts.Map.Last
	_ func(parts.Map, api.Part, int64) int64                                = parts.Map.Room
	_ func(parts.Map, api.Disk, api.Part, int64) ([]parts.Piece, api.Errno) = parts.Map.Resize
	_ func(api.Disk, api.Ext) (api.Disk, api.Errno)                         = parts.Window
	_ func(api.Disk, api.Path) ([]byte, api.Errno)                          = parts.Content
	_ func(api.Disk, []api.Path) ([]uint32, api.Errno)                      = parts.Sums
	_ func([]api.Path, string) (api.Path, bool)                             = parts.Find
	_ api.Disk                                                              = parts.Mem(nil)
	_                                                                       = parts.Map{Kind: parts.None, Parts: []api.Part{}, Held: extent.Set{}, Gaps: extent.Set{}}
	_                                                                       = gpt.Piece(parts.Piece{At: int64(1), B: []byte{}})
)

// bare is a disk that hands out its own bytes, with all room behind them: who
// writes into them is found out.
type bare []byte

func (m bare) Size() int64 { return int64(len(m)) }

func (m bare) Read(at, n int64) ([]byte, api.Errno) {
	if at < 0 || n < 0 || n > int64(len(m))-at {
		return nil, api.ErrRange
	}
	return m[at : at+n], api.OK
}

// odd is a disk that answers as it is told, and counts its reads.
type odd struct {
	bare
	reads  int
	answer func(read int, at, n int64) ([]byte, api.Errno, bool)
}

func (o *odd) Read(at, n int64) ([]byte, api.Errno) {
	o.reads++
	if b, e, told := o.answer(o.reads, at, n); told {
		return b, e
	}
	return o.bare.Read(at, n)
}

// refusing: a disk whose n-th read is refused, with bytes beside the error.
func refusing(d []byte, n int, e api.Errno) *odd {
	return &odd{bare: d, answer: func(read int, _, _ int64) ([]byte, api.Errno, bool) {
		return []byte{1, 2, 3}, e, read == n
	}}
}

// sized is a disk that tells another size.
type sized struct {
	api.Disk
	size int64
}

func (s sized) Size() int64 { return s.size }

func ok(t *testing.T, e api.Errno) {
	t.Helper()
	if e != api.OK {
		t.Fatal("error", e)
	}
}

func pattern(n int, seed int64) []byte {
	b := make([]byte, n)
	rand.New(rand.NewSource(seed)).Read(b)
	return b
}

// lay: a sector of a disk has these entries, written by hand, and is else as it was.
func lay(d []byte, sector int64, entries ...mbr.Entry) {
	b := d[512*sector:]
	b[510], b[511] = 0x55, 0xAA
	for i := range 4 {
		at := b[446+16*i:]
		at[0] &= 0x80
		x := mbr.Entry{}
		if i < len(entries) {
			x = entries[i]
		}
		at[4] = byte(x.Type)
		binary.LittleEndian.PutUint32(at[8:], uint32(x.First))
		binary.LittleEndian.PutUint32(at[12:], uint32(x.Count))
	}
}

// world is a disk, and what stands on it, told by hand: of each sector whose it
// is, of each slot its sectors, and where its entry stands.
type world struct {
	d     []byte
	kind  int
	owner map[int64]int // of a sector: its slot; -1: a table's; of none: a gap's
	slots map[int]api.Part
	inner [2]int64      // sectors
	table gpt.Table     // of a GPT
	entry map[int]int64 // of an MBR's slot where its entry's bytes stand
}

func (w *world) own(owner int, from, to int64) {
	for n := from; n < to; n++ {
		if _, twice := w.owner[n]; twice {
			panic("a sector has two owners")
		}
		w.owner[n] = owner
	}
}

func (w *world) part(slot, kind int, from, to int64) {
	w.own(slot, from, to)
	w.slots[slot] = api.Part{Ext: api.Ext{From: 512 * from, To: 512 * to}, Type: kind, Slot: slot}
}

func newWorld(kind int, bytes int, seed int64) *world {
	return &world{d: pattern(bytes, seed), kind: kind, owner: map[int64]int{}, slots: map[int]api.Part{}, entry: map[int]int64{}}
}

// sectors: how many sectors the disk has, a shorter last one among them.
func (w *world) sectors() int64 { return int64(len(w.d)+511) / 512 }

// want: the map that Parse must answer.
func (w *world) want() (m parts.Map) {
	m.Kind = w.kind
	gaps, held := map[int64]int{}, map[int64]int{}
	for n := range w.sectors() {
		switch owner, has := w.owner[n]; {
		case !has:
			gaps[n] = 1
		case owner < 0:
			held[n] = 1
		}
	}
	m.Held, m.Gaps = w.set(held), w.set(gaps)
	var begins []int64
	for _, p := range w.slots {
		begins = append(begins, p.Ext.From)
	}
	slices.Sort(begins)
	for _, at := range begins {
		m.Parts = append(m.Parts, w.slots[w.owner[at/512]])
	}
	return m
}

// set: sectors as bytes, those that touch as one; the disk's last one may be shorter.
func (w *world) set(sectors map[int64]int) (s extent.Set) {
	for n := range w.sectors() {
		if sectors[n] == 0 {
			continue
		}
		if sectors[n-1] == 0 {
			s = append(s, api.Ext{From: 512 * n})
		}
		s[len(s)-1].To = min(512*n+512, int64(len(w.d)))
	}
	return s
}

// room: how far a partition may grow: sector by sector, till there is one that isn't free.
func (w *world) room(slot int, size int64) int64 {
	end := w.slots[slot].Ext.To
	for {
		n := end / 512
		_, taken := w.owner[n]
		switch {
		case w.kind == parts.Gpt && n > w.table.Last:
			return end
		case w.kind == parts.Mbr && end >= size:
			return size
		case taken:
			return end
		case w.kind == parts.Mbr && slot > 3 && n == w.inner[1]:
			return end
		case w.kind == parts.Mbr && slot < 4 && n == w.inner[0] && w.inner[1] > 0:
			return end
		}
		end += 512
	}
}

// same: is one what the other is? Nil and empty lists are one.
func same(a, b parts.Map) bool {
	return a.Kind == b.Kind && slices.Equal(a.Parts, b.Parts) && slices.Equal(a.Held, b.Held) && slices.Equal(a.Gaps, b.Gaps)
}

// parsed: Parse answers what the world says; parts, tables and gaps are apart, and
// all of the disk; the disk stays as it is.
func (w *world) parsed(t *testing.T) parts.Map {
	t.Helper()
	ahead := bytes.Clone(w.d)
	m, e := parts.Parse(bare(w.d))
	if want := w.want(); e != api.OK || !same(m, want) {
		t.Fatalf("Parse: %d; %+v, not %+v", e, m, want)
	}
	if !bytes.Equal(w.d, ahead) {
		t.Fatal("what was handed in is changed")
	}
	w.whole(t, m)
	return m
}

// whole: each byte of the disk is in one of parts, tables and gaps, and in one alone.
func (w *world) whole(t *testing.T, m parts.Map) {
	t.Helper()
	list := slices.Concat(m.Held, m.Gaps)
	for _, p := range m.Parts {
		list = append(list, p.Ext)
	}
	slices.SortFunc(list, func(a, b api.Ext) int { return int(a.From - b.From) })
	at := int64(0)
	for _, x := range list {
		if x.From != at || x.To <= x.From {
			t.Fatalf("not one behind the other: %v", list)
		}
		at = x.To
	}
	if at != int64(len(w.d)) {
		t.Fatalf("not the whole disk: %v", list)
	}
}

// usualMbr is a disk of 120 sectors and a bit: two outer partitions that don't rise, an
// Inner of 64 to 99 with a chain that goes to and fro, whose third sector has none.
func usualMbr() *world {
	w := newWorld(parts.Mbr, 120*512+100, 5)
	lay(w.d, 0, mbr.Entry{Type: 12, First: 104, Count: 10}, mbr.Entry{Type: 5, First: 64, Count: 36}, mbr.Entry{}, mbr.Entry{Type: 0x83, First: 8, Count: 40})
	w.own(-1, 0, 1)
	w.part(0, 12, 104, 114)
	w.part(3, 0x83, 8, 48)
	w.inner = [2]int64{64, 100}
	lay(w.d, 64, mbr.Entry{Type: 11, First: 1, Count: 10}, mbr.Entry{Type: 5, First: 20, Count: 3})
	lay(w.d, 84, mbr.Entry{Type: 7, First: 2, Count: 14}, mbr.Entry{Type: 15, First: 12, Count: 3})
	lay(w.d, 76, mbr.Entry{}, mbr.Entry{Type: 5, First: 13, Count: 1})
	lay(w.d, 77, mbr.Entry{Type: 1, First: 1, Count: 2})
	for i, n := range []int64{64, 84, 76, 77} {
		w.own(-1, n, n+1)
		w.entry[4+i] = 512*n + 446
	}
	w.part(4, 11, 65, 75)
	w.part(5, 7, 86, 100)
	w.part(7, 1, 78, 80)
	for slot := range 4 {
		w.entry[slot] = int64(446 + 16*slot)
	}
	return w
}

// guard: the first sector of a GPT's disk.
func guard(d []byte) {
	lay(d, 0, mbr.Entry{Type: 0xEE, First: 1, Count: int64(len(d))/512 - 1})
}

// gptWorld: a disk of any bytes with a GPT.
func gptWorld(t gpt.Table) *world {
	w := newWorld(parts.Gpt, int(512*t.Sectors), t.Sectors)
	w.table = t
	guard(w.d)
	l, e := t.Encode()
	if e != api.OK {
		panic(e)
	}
	for _, p := range l {
		copy(w.d[p.At:], p.B)
	}
	rows := int64(len(t.List)+3) / 4
	w.own(-1, 0, 2)
	w.own(-1, t.At, t.At+rows)
	w.own(-1, t.Behind, t.Behind+rows)
	w.own(-1, t.Sectors-1, t.Sectors)
	for slot, x := range t.List {
		if x.Ids != [32]byte{} {
			w.part(slot, 0, x.First, x.Last+1)
		}
	}
	return w
}

// named: an entry of a GPT; its other bytes are any.
func named(seed, first, last int64) gpt.Entry {
	x := gpt.Entry{First: first, Last: last}
	copy(x.Ids[:], pattern(32, seed))
	copy(x.Rest[:], pattern(80, seed+1))
	x.Ids[seed%16] = 9
	return x
}

// usualGpt is a disk of 64 sectors with six entries, three partitions that don't
// rise, and room ahead of the entries, and between them and the partitions.
func usualGpt() *world {
	t := gpt.Table{Sectors: 64, First: 7, Last: 56, At: 3, Behind: 59, List: make([]gpt.Entry, 6)}
	copy(t.Id[:], pattern(16, 3))
	t.List[1] = named(1, 30, 50)
	t.List[2] = named(2, 7, 7)
	t.List[5] = named(5, 9, 20)
	return gptWorld(t)
}

// anyMbr: a disk with partitions at any places, outer ones and a chain.
func anyMbr(r *rand.Rand) *world {
	sectors := 8 + r.Int63n(60)
	w := newWorld(parts.Mbr, int(512*sectors+r.Int63n(2)*r.Int63n(512)), r.Int63())
	w.own(-1, 0, 1)
	var list [4]mbr.Entry
	at := 1 + r.Int63n(3)
	innerAt := r.Intn(6)
	for i, slot := range r.Perm(4) {
		size := 1 + r.Int63n(12)
		if at+size > sectors {
			break
		}
		if i == innerAt {
			w.inner = [2]int64{at, at + size}
			list[slot] = mbr.Entry{Type: []int{5, 15}[r.Intn(2)], First: at, Count: size}
			w.anyChain(r, at, at+size)
		} else {
			kind := 16 + r.Intn(200)
			list[slot] = mbr.Entry{Type: kind, First: at, Count: size}
			w.part(slot, kind, at, at+size)
		}
		w.entry[slot] = int64(446 + 16*slot)
		at += size + r.Int63n(2)*r.Int63n(6)
	}
	lay(w.d, 0, list[:]...)
	return w
}

// anyChain: sectors with entries, one behind the other, from Inner's first on.
func (w *world) anyChain(r *rand.Rand, from, to int64) {
	for slot, at := 4, from; ; slot++ {
		w.own(-1, at, at+1)
		w.entry[slot] = 512*at + 446
		end := at + 1
		l := make([]mbr.Entry, 2)
		if room := to - end; room > 0 && r.Intn(4) > 0 {
			gap := r.Int63n(room)
			size := 1 + r.Int63n(min(room-gap, 4))
			kind := 16 + r.Intn(200)
			l[0] = mbr.Entry{Type: kind, First: 1 + gap, Count: size}
			w.part(slot, kind, end+gap, end+gap+size)
			end += gap + size
		}
		if end >= to || r.Intn(5) == 0 {
			lay(w.d, at, l...)
			return
		}
		next := end + r.Int63n(to-end)
		l[1] = mbr.Entry{Type: []int{5, 15}[r.Intn(2)], First: next - from, Count: 1}
		lay(w.d, at, l...)
		at = next
	}
}

// anyGpt: a disk with a GPT of partitions at any places, in any order of its entries.
func anyGpt(r *rand.Rand) *world {
	t := gpt.Table{List: make([]gpt.Entry, 1+r.Intn(12))}
	rows := int64(len(t.List)+3) / 4
	t.At = 2 + r.Int63n(3)
	t.First = t.At + rows + r.Int63n(3)
	t.Last = t.First - 1 + r.Int63n(40)
	t.Behind = t.Last + 1 + r.Int63n(3)
	t.Sectors = max(t.Behind+rows+r.Int63n(3)+1, 6)
	copy(t.Id[:], pattern(16, r.Int63()))
	at := t.First + r.Int63n(3)
	for _, slot := range r.Perm(len(t.List)) {
		size := 1 + r.Int63n(9)
		if at+size-1 > t.Last || r.Intn(6) == 0 {
			break
		}
		t.List[slot] = named(r.Int63n(1000), at, at+size-1)
		at += size + r.Int63n(2)*r.Int63n(5)
	}
	return gptWorld(t)
}
