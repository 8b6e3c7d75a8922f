package mbr_test

import (
	"bytes"
	"encoding/binary"
	"math/rand"
	"slices"
	"testing"

	"fettle/api"
	"fettle/mbr"
)

// The signatures that the document lists.
var (
	_ func([]byte) ([]mbr.Entry, api.Errno)        = mbr.Entries
	_ func([]byte, int, mbr.Entry) api.Errno       = mbr.Put
	_ func(...mbr.Entry) ([]byte, api.Errno)       = mbr.Make
	_ func(api.Disk) (mbr.Table, api.Errno)        = mbr.Parse
	_ func(mbr.Table, int) (int64, int, api.Errno) = mbr.Table.Sector
	_                                              = mbr.Entry{Type: int(1), First: int64(1), Count: int64(1)}
	_                                              = mbr.Table{Parts: []api.Part{}, Held: []api.Ext{}, Inner: api.Ext{}, Guard: true}
	_ [1]bool                                      = [mbr.Guard - 0xED]bool{}
)

// mem is bytes, as a disk.
type mem []byte

func (m mem) Size() int64 { return int64(len(m)) }

func (m mem) Read(at, n int64) ([]byte, api.Errno) {
	if at < 0 || n < 0 || n > int64(len(m))-at {
		return nil, api.ErrRange
	}
	return slices.Clone(m[at : at+n]), api.OK
}

// bare is a disk that hands out its own bytes, with all room behind them: who
// writes into them is found out.
type bare []byte

func (m bare) Size() int64 { return int64(len(m)) }

func (m bare) Read(at, n int64) ([]byte, api.Errno) {
	if at < 0 || n < 0 || n > int64(len(m))-at {
		return nil, api.ErrRange
	}
	return m[at : at+n], api.OK
}

// odd is a disk that answers as it is told, and counts its reads.
type odd struct {
	mem
	reads  int
	answer func(read int, at, n int64) ([]byte, api.Errno, bool)
}

func (o *odd) Read(at, n int64) ([]byte, api.Errno) {
	o.reads++
	if b, e, told := o.answer(o.reads, at, n); told {
		return b, e
	}
	return o.mem.Read(at, n)
}

// sized is a disk that tells another size.
type sized struct {
	api.Disk
	size int64
}

func (s sized) Size() int64 { return s.size }

func ok(t *testing.T, e api.Errno) {
	t.Helper()
	if e != api.OK {
		t.Fatal("error", e)
	}
}

func pattern(n int, seed int64) []byte {
	b := make([]byte, n)
	rand.New(rand.NewSource(seed)).Read(b)
	return b
}

// same: is one what the other is? Nil and empty lists are one.
func same(a, b mbr.Table) bool {
	return slices.Equal(a.Parts, b.Parts) && slices.Equal(a.Held, b.Held) && a.Inner == b.Inner && a.Guard == b.Guard
}

// lay: a sector of a disk has these entries, written by hand, and is else as it was.
func lay(d []byte, sector int, entries ...mbr.Entry) {
	b := d[512*sector:]
	b[510], b[511] = 0x55, 0xAA
	for i := range 4 {
		at := b[446+16*i:]
		at[0] = 0
		x := mbr.Entry{}
		if i < len(entries) {
			x = entries[i]
		}
		at[4] = byte(x.Type)
		binary.LittleEndian.PutUint32(at[8:], uint32(x.First))
		binary.LittleEndian.PutUint32(at[12:], uint32(x.Count))
	}
}

// noise: a disk of any bytes.
func noise(sectors int) []byte {
	return pattern(512*sectors, int64(sectors))
}

// stop is an error by which the plain Parse is left.
type stop api.Errno

func must(holds bool, e api.Errno) {
	if !holds {
		panic(stop(e))
	}
}

// plain is the chapter once more, on bytes alone: sectors, not bytes, and a mark
// for each sector that has an owner.
type plain struct {
	d     []byte
	parts [][4]int64 // first, end, type, slot
	held  []int64
	inner [2]int64
	guard bool
}

// byWords: what Parse must answer.
func byWords(d []byte) (t mbr.Table, e api.Errno) {
	p := &plain{d: d}
	defer func() {
		if s := recover(); s != nil {
			t, e = mbr.Table{}, api.Errno(s.(stop))
		}
	}()
	p.read()
	for _, x := range p.parts {
		t.Parts = append(t.Parts, api.Part{Ext: api.Ext{From: 512 * x[0], To: 512 * x[1]}, Type: int(x[2]), Slot: int(x[3])})
	}
	for _, n := range p.held {
		t.Held = append(t.Held, api.Ext{From: 512 * n, To: 512*n + 512})
	}
	t.Inner, t.Guard = api.Ext{From: 512 * p.inner[0], To: 512 * p.inner[1]}, p.guard
	return t, api.OK
}

// rows: the four entries of a sector: type, first, count.
func (p *plain) rows(sector int64) (l [4][3]int64) {
	must(int64(len(p.d)) >= 512*sector+512, api.ErrRange)
	b := p.d[512*sector : 512*sector+512]
	must(b[510] == 0x55 && b[511] == 0xAA, api.ErrMagic)
	for i := range l {
		x := b[446+16*i : 462+16*i]
		must(x[0] == 0 || x[0] == 0x80, api.ErrForm)
		l[i] = [3]int64{int64(x[4]), int64(binary.LittleEndian.Uint32(x[8:])), int64(binary.LittleEndian.Uint32(x[12:]))}
		must((l[i][0] == 0) == (l[i][2] == 0), api.ErrForm)
	}
	p.held = append(p.held, sector)
	return l
}

func (p *plain) ends(first, count int64) {
	must(first >= 1 && 512*(first+count) <= int64(len(p.d)), api.ErrRange)
}

func (p *plain) read() {
	for slot, x := range p.rows(0) {
		switch x[0] {
		case 0:
		case 0xEE:
			p.guard = true
		case 5, 15:
			must(p.inner[0] == 0, api.ErrTwice)
			p.ends(x[1], x[2])
			p.inner = [2]int64{x[1], x[1] + x[2]}
		default:
			p.ends(x[1], x[2])
			p.parts = append(p.parts, [4]int64{x[1], x[1] + x[2], x[0], int64(slot)})
		}
	}
	if p.inner[0] != 0 {
		p.follow()
	}
	p.apart()
}

func (p *plain) follow() {
	at := p.inner[0]
	for slot := int64(4); ; slot++ {
		must(slot <= 36, api.ErrBig)
		must(!slices.Contains(p.held, at), api.ErrLoop)
		must(at >= p.inner[0] && at < p.inner[1], api.ErrRange)
		l := p.rows(at)
		must(l[2][0] == 0 && l[3][0] == 0 && l[0][0] != 5 && l[0][0] != 15, api.ErrForm)
		if l[0][0] != 0 {
			first, end := at+l[0][1], at+l[0][1]+l[0][2]
			must(first >= p.inner[0] && end <= p.inner[1], api.ErrRange)
			p.parts = append(p.parts, [4]int64{first, end, l[0][0], slot})
			must(len(p.parts) <= 32, api.ErrBig)
		}
		if l[1][0] == 0 {
			return
		}
		must(l[1][0] == 5 || l[1][0] == 15, api.ErrForm)
		at = p.inner[0] + l[1][1]
	}
}

// apart: each sector's owners are counted, those of Inner apart from the rest.
func (p *plain) apart() {
	outer, all := make([]int, len(p.d)/512+1), make([]int, len(p.d)/512+1)
	own := func(l []int, first, end int64) {
		for n := first; n < end; n++ {
			l[n]++
			must(l[n] < 2, api.ErrCross)
		}
	}
	own(outer, p.inner[0], p.inner[1])
	for _, x := range p.parts {
		own(all, x[0], x[1])
		if x[3] < 4 {
			own(outer, x[0], x[1])
		}
	}
	for _, n := range p.held {
		own(all, n, n+1)
	}
}

// looked: Parse's answer, held against the plain one; the disk stays as it is.
func looked(t *testing.T, what string, d []byte) (mbr.Table, api.Errno) {
	t.Helper()
	want, e := byWords(d)
	ahead := bytes.Clone(d)
	x, got := mbr.Parse(bare(d))
	if got != e || !same(x, want) {
		t.Fatalf("%s: Parse: %d, not %d; %+v, not %+v", what, got, e, x, want)
	}
	if !bytes.Equal(d, ahead) {
		t.Fatalf("%s: what was handed in is changed", what)
	}
	return x, e
}

// wants: Parse answers an error, and so does the plain one.
func wants(t *testing.T, what string, d []byte, want api.Errno) {
	t.Helper()
	if _, e := looked(t, what, d); e != want {
		t.Errorf("%s: error %d, not %d", what, e, want)
	}
}
