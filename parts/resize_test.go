package parts_test

import (
	"bytes"
	"encoding/binary"
	"math"
	"math/rand"
	"slices"
	"testing"

	"fettle/api"
	"fettle/gpt"
	"fettle/mbr"
	"fettle/parts"
)

// put: pieces are written on a copy of a disk.
func put(d []byte, l []parts.Piece) []byte {
	d = bytes.Clone(d)
	for _, p := range l {
		copy(d[p.At:], p.B)
	}
	return d
}

// pieces: what Resize must answer, by hand.
func (w *world) pieces(slot int, to int64) []parts.Piece {
	if w.kind == parts.Mbr {
		at := w.entry[slot] / 512 * 512
		b := bytes.Clone(w.d[at : at+512])
		binary.LittleEndian.PutUint32(b[w.entry[slot]-at+12:], uint32((to-w.slots[slot].Ext.From)/512))
		return []parts.Piece{{At: at, B: b}}
	}
	g := w.table
	g.List = slices.Clone(g.List)
	g.List[slot].Last = to/512 - 1
	l, e := g.Encode()
	if e != api.OK {
		panic(e)
	}
	var out []parts.Piece
	for _, p := range l {
		out = append(out, parts.Piece(p))
	}
	return out
}

func samePieces(a, b []parts.Piece) bool {
	return slices.EqualFunc(a, b, func(x, y parts.Piece) bool { return x.At == y.At && bytes.Equal(x.B, y.B) })
}

// resized: Resize answers as it must; behind its pieces the map is the same but for
// that end, and nothing but the table's bytes is written.
func (w *world) resized(t *testing.T, m parts.Map, slot int, to int64) {
	t.Helper()
	p := w.slots[slot]
	ahead, was := bytes.Clone(w.d), w.want()
	l, e := m.Resize(bare(w.d), p, to)
	if !bytes.Equal(w.d, ahead) || !same(m, was) {
		t.Fatal("what was handed in is changed")
	}
	want := api.OK
	switch {
	case to%512 != 0:
		want = api.ErrAlign
	case to <= p.Ext.From:
		want = api.ErrSmall
	case to > w.room(slot, int64(len(w.d))):
		want = api.ErrRange
	}
	if e != want || want != api.OK && len(l) > 0 {
		t.Fatalf("slot %d to %d: %d, not %d; %d pieces", slot, to, e, want, len(l))
	}
	if want != api.OK {
		return
	}
	if !samePieces(l, w.pieces(slot, to)) {
		t.Fatalf("slot %d to %d: other pieces", slot, to)
	}
	w.ended(t, put(w.d, l), slot, to)
}

// ended: the disk's map is the same, but that a slot's partition ends at another place.
func (w *world) ended(t *testing.T, d []byte, slot int, to int64) {
	t.Helper()
	now := &world{d: d, kind: w.kind, owner: map[int64]int{}, slots: map[int]api.Part{}}
	for n, owner := range w.owner {
		if owner != slot {
			now.owner[n] = owner
		} else if !bytes.Equal(d[512*n:512*n+512], w.d[512*n:512*n+512]) {
			t.Fatal("a partition's byte is written")
		}
	}
	for s, p := range w.slots {
		if s != slot {
			now.slots[s] = p
		}
	}
	p := w.slots[slot]
	now.part(slot, p.Type, p.Ext.From/512, to/512)
	m := now.parsed(t)
	for _, x := range m.Gaps {
		if !bytes.Equal(d[x.From:x.To], w.d[x.From:x.To]) {
			t.Fatal("a gap's byte is written")
		}
	}
	for _, p := range m.Parts {
		if !bytes.Equal(d[p.Ext.From:p.Ext.To], w.d[p.Ext.From:p.Ext.To]) {
			t.Fatal("a partition's byte is written")
		}
	}
}

func TestResizeUsual(t *testing.T) {
	for _, w := range []*world{usualMbr(), usualGpt()} {
		m := w.parsed(t)
		for slot := range w.slots {
			for to := int64(-1024); to < int64(len(w.d))+2048; to += 256 {
				w.resized(t, m, slot, to)
			}
			for _, to := range []int64{math.MinInt64, math.MinInt64 + 1, -512, 0, 511, math.MaxInt64, math.MaxInt64 - 511} {
				w.resized(t, m, slot, to)
			}
		}
	}
}

func TestResizeAny(t *testing.T) {
	r := rand.New(rand.NewSource(4))
	for range 1000 {
		for _, w := range []*world{anyMbr(r), anyGpt(r)} {
			m := w.parsed(t)
			for slot, p := range w.slots {
				room := w.room(slot, int64(len(w.d)))
				for _, to := range []int64{p.Ext.From, p.Ext.From + 512, p.Ext.To - 512, p.Ext.To, p.Ext.To + 512, room / 512 * 512, room/512*512 + 512, 512 * r.Int63n(80), r.Int63n(9999)} {
					w.resized(t, m, slot, to)
				}
			}
		}
	}
}

// An end that is written, then another one: by the new map, and by the old partition.
func TestResizeAgain(t *testing.T) {
	for _, w := range []*world{usualMbr(), usualGpt()} {
		m := w.parsed(t)
		p, _ := m.Last()
		l, e := m.Resize(bare(w.d), p, p.Ext.To+512)
		ok(t, e)
		grown := put(w.d, l)
		m, e = parts.Parse(bare(grown))
		ok(t, e)
		q, _ := m.Last()
		if q.Ext.To != p.Ext.To+512 {
			t.Fatal(q)
		}
		for _, x := range []api.Part{q, p} {
			l, e = m.Resize(bare(grown), x, p.Ext.To)
			ok(t, e)
			if back := put(grown, l); !bytes.Equal(back, w.d) {
				t.Error("not as it was")
			}
		}
	}
}

// The first that applies.
func TestResizeFirstError(t *testing.T) {
	for _, w := range []*world{usualMbr(), usualGpt()} {
		m := w.parsed(t)
		p, _ := m.Last()
		end := (m.Room(p, int64(len(w.d))) + 511) / 512 * 512
		none := p
		none.Slot = 40
		wrongs := []struct {
			d    api.Disk
			p    api.Part
			to   int64
			want api.Errno
		}{
			{nil, none, 1, api.ErrNil},
			{nil, p, p.Ext.To, api.ErrNil},
			{bare(w.d), none, p.Ext.From - 1, api.ErrAlign},
			{bare(w.d), none, end + 513, api.ErrAlign},
			{bare(w.d), none, p.Ext.From, api.ErrSmall},
			{bare(w.d), none, -512, api.ErrSmall},
			{bare(w.d), p, end + 512, api.ErrRange},
			{bare(w.d), p, p.Ext.To, api.OK},
		}
		for i, c := range wrongs {
			if l, e := m.Resize(c.d, c.p, c.to); e != c.want || (e == api.OK) != (len(l) > 0) {
				t.Errorf("%d: %d, not %d", i, e, c.want)
			}
		}
	}
	// of a slot that isn't there: what is beyond its room is told first
	w := usualGpt()
	m := w.parsed(t)
	p, _ := m.Last()
	p.Slot = 0
	for to, want := range map[int64]api.Errno{58 * 512: api.ErrRange, 57 * 512: api.ErrNone} {
		if l, e := m.Resize(bare(w.d), p, to); e != want || len(l) > 0 {
			t.Error(to, e)
		}
	}
}

func TestResizeNoSlot(t *testing.T) {
	for _, w := range []*world{usualMbr(), usualGpt()} {
		m := w.parsed(t)
		for slot := -3; slot < 140; slot++ {
			if _, has := w.slots[slot]; has {
				continue
			}
			for _, q := range m.Parts {
				want := api.ErrNone
				if q.Slot = slot; w.kind == parts.Mbr && slot > 3 && q.Ext.To > 512*w.inner[1] {
					want = api.ErrRange // a slot of the chain has no room behind Inner
				}
				if l, e := m.Resize(bare(w.d), q, q.Ext.To); e != want || len(l) > 0 {
					t.Errorf("slot %d: %d, not %d", slot, e, want)
				}
			}
		}
		q := m.Parts[0]
		q.Slot = math.MaxInt
		if l, e := m.Resize(bare(w.d), q, q.Ext.To); e == api.OK || len(l) > 0 {
			t.Error(e)
		}
	}
}

// A partition that is told otherwise than its slot has it: whatever is answered,
// behind the pieces the map is the same, but for that slot's end.
func TestResizeToldOtherwise(t *testing.T) {
	r := rand.New(rand.NewSource(6))
	done := 0
	for range 1500 {
		for _, w := range []*world{anyMbr(r), anyGpt(r)} {
			m := w.parsed(t)
			for slot, p := range w.slots {
				p.Ext.From += 512 * (r.Int63n(21) - 10)
				p.Ext.To += 512 * (r.Int63n(41) - 20)
				p.Type = r.Intn(300) - 20
				to := 512 * r.Int63n(70)
				l, e := m.Resize(bare(w.d), p, to)
				if e != api.OK {
					if len(l) > 0 {
						t.Fatal("pieces beside an error")
					}
					continue
				}
				done++
				w.ended(t, put(w.d, l), slot, to)
			}
		}
	}
	if done < 100 {
		t.Error(done)
	}
}

// A disk that is greater than an entry can say.
func TestResizeBeyondEntry(t *testing.T) {
	d := make([]byte, 4096)
	lay(d, 0, mbr.Entry{Type: 7, First: 2, Count: 2})
	great := sized{bare(d), 1 << 50}
	m, e := parts.Parse(great)
	ok(t, e)
	const most = (1<<32 - 1 + 2) * 512
	l, e := m.Resize(great, m.Parts[0], most)
	ok(t, e)
	now, e := parts.Parse(sized{bare(put(d, l)), 1 << 50})
	if e != api.OK || now.Parts[0].Ext.To != most {
		t.Error(now, e)
	}
	if l, e := m.Resize(great, m.Parts[0], most+512); e != api.ErrLimit || len(l) > 0 {
		t.Error(l, e)
	}
}

// The disk refuses, or hasn't the bytes.
func TestResizeRefused(t *testing.T) {
	w := usualMbr()
	m := w.parsed(t)
	for slot, p := range w.slots {
		for _, want := range []api.Errno{api.ErrIO, api.ErrState, api.ErrForm} {
			if l, e := m.Resize(refusing(w.d, 1, want), p, p.Ext.To); e != want || len(l) > 0 {
				t.Errorf("slot %d: %d", slot, e)
			}
		}
		for n := range 1030 {
			other := &odd{bare: w.d, answer: func(int, int64, int64) ([]byte, api.Errno, bool) { return make([]byte, n), api.OK, n != 512 }}
			if l, e := m.Resize(other, p, p.Ext.To); (e == api.OK) != (n == 512) || e != api.OK && (e != api.ErrRange || len(l) > 0) {
				t.Errorf("slot %d, %d bytes: %d", slot, n, e)
			}
		}
	}
}

// Pieces are new memory: who writes into them changes neither the disk nor the map.
func TestPiecesAreNew(t *testing.T) {
	for _, w := range []*world{usualMbr(), usualGpt()} {
		m := w.parsed(t)
		for slot, p := range w.slots {
			l, e := m.Resize(bare(w.d), p, p.Ext.To)
			ok(t, e)
			for _, x := range l {
				for i := range x.B {
					x.B[i] ^= 255
				}
				_ = append(x.B, 1, 2, 3)
			}
			w.parsed(t)
			l, e = m.Resize(bare(w.d), p, p.Ext.To)
			if e != api.OK || !samePieces(l, w.pieces(slot, p.Ext.To)) {
				t.Error(slot, e)
			}
		}
	}
}

// A map that was answered is the caller's; another Parse, and a GPT's end by a map
// of it, aren't touched by what is done to its lists.
func TestMapIsNew(t *testing.T) {
	w := usualGpt()
	a, b := w.parsed(t), w.parsed(t)
	clear(a.Parts)
	clear(a.Held)
	clear(a.Gaps)
	if !same(b, w.want()) {
		t.Error(b)
	}
	var list []gpt.Piece
	l, e := b.Resize(bare(w.d), b.Parts[0], b.Parts[0].Ext.To)
	ok(t, e)
	for _, p := range l {
		list = append(list, gpt.Piece(p))
	}
	want, _ := w.table.Encode()
	if !slices.EqualFunc(list, want, func(x, y gpt.Piece) bool { return x.At == y.At && bytes.Equal(x.B, y.B) }) {
		t.Error("other pieces")
	}
}
