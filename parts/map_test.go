package parts_test

import (
	"bytes"
	"math"
	"math/rand"
	"slices"
	"testing"

	"fettle/api"
	"fettle/extent"
	"fettle/gpt"
	"fettle/mbr"
	"fettle/parts"
)

func TestExample(t *testing.T) {
	d := make([]byte, 100*512)
	lay(d, 0, mbr.Entry{Type: 12, First: 8, Count: 40})
	m, e := parts.Parse(parts.Mem(d))
	ok(t, e)
	p := api.Part{Ext: api.Ext{From: 8 * 512, To: 48 * 512}, Type: 12}
	want := parts.Map{Kind: 1, Parts: []api.Part{p}, Held: extent.Set{{To: 512}}, Gaps: extent.Set{{From: 512, To: 8 * 512}, {From: 48 * 512, To: 100 * 512}}}
	if !same(m, want) {
		t.Errorf("%+v", m)
	}
	if room := m.Room(p, 100*512); room != 100*512 {
		t.Error(room)
	}
}

func TestUsual(t *testing.T) {
	m := usualMbr().parsed(t)
	var slots []int
	for _, p := range m.Parts {
		slots = append(slots, p.Slot)
	}
	if !slices.Equal(slots, []int{3, 4, 7, 5, 0}) {
		t.Error(slots)
	}
	if len(m.Held) != 4 || m.Held[2] != (api.Ext{From: 76 * 512, To: 78 * 512}) { // two that touch are one
		t.Error(m.Held)
	}
	m = usualGpt().parsed(t)
	if m.Kind != 2 || len(m.Held) != 4 || m.Held[0] != (api.Ext{To: 1024}) {
		t.Errorf("%+v", m)
	}
}

func TestAnyDisk(t *testing.T) {
	r := rand.New(rand.NewSource(1))
	for range 3000 {
		anyMbr(r).parsed(t)
		anyGpt(r).parsed(t)
	}
}

// No partition at all: an MBR and a GPT.
func TestEmpty(t *testing.T) {
	w := newWorld(parts.Mbr, 700, 1)
	lay(w.d, 0)
	w.own(-1, 0, 1)
	m := w.parsed(t)
	if p, has := m.Last(); has || p != (api.Part{}) {
		t.Error(p, has)
	}
	m = gptWorld(gpt.Table{Sectors: 6, At: 2, First: 3, Last: 2, Behind: 4, List: make([]gpt.Entry, 4)}).parsed(t)
	if len(m.Gaps) != 1 || m.Kind != parts.Gpt {
		t.Errorf("%+v", m)
	}
}

// As many partitions as there may be.
func TestMany(t *testing.T) {
	g := gpt.Table{Sectors: 200, At: 2, First: 34, Last: 160, Behind: 161, List: make([]gpt.Entry, 128)}
	for i := range 32 {
		g.List[127-3*i] = named(int64(i), int64(40+3*i), int64(41+3*i))
	}
	w := gptWorld(g)
	m := w.parsed(t)
	if p, has := m.Last(); !has || p.Slot != 34 || len(m.Parts) != 32 {
		t.Error(p, has)
	}
	w = newWorld(parts.Mbr, 140*512, 1)
	lay(w.d, 0, mbr.Entry{Type: 5, First: 1, Count: 139})
	w.own(-1, 0, 1)
	for i := range int64(33) {
		l := []mbr.Entry{{Type: 9, First: 1, Count: 2}, {Type: 5, First: 4*i + 4, Count: 1}}
		if i == 31 {
			l[1] = mbr.Entry{}
		}
		lay(w.d, 1+4*i, l...)
		if i < 32 {
			w.own(-1, 1+4*i, 2+4*i)
			w.part(int(4+i), 9, 2+4*i, 4+4*i)
		}
	}
	w.parsed(t)
	lay(w.d, 1+4*31, mbr.Entry{Type: 9, First: 1, Count: 2}, mbr.Entry{Type: 5, First: 4 * 32, Count: 1})
	if m, e := parts.Parse(bare(w.d)); e != api.ErrBig || !same(m, parts.Map{}) {
		t.Error(m, e)
	}
}

// wants: Parse answers an error, and nothing with it; the disk stays as it is.
func wants(t *testing.T, what string, d []byte, want api.Errno) {
	t.Helper()
	ahead := bytes.Clone(d)
	if m, e := parts.Parse(bare(d)); e != want || !same(m, parts.Map{}) {
		t.Errorf("%s: %d, not %d; %+v", what, e, want, m)
	}
	if !bytes.Equal(d, ahead) {
		t.Errorf("%s: what was handed in is changed", what)
	}
}

func TestNoTable(t *testing.T) {
	if m, e := parts.Parse(nil); e != api.ErrNil || !same(m, parts.Map{}) {
		t.Error(m, e)
	}
	for _, n := range []int{0, 1, 511} {
		wants(t, "short", make([]byte, n), api.ErrRange)
	}
	wants(t, "noughts", make([]byte, 64*512), api.ErrMagic)
	w := usualGpt()
	w.d[510] = 0
	wants(t, "a GPT without a first sector", w.d, api.ErrMagic)
	w = usualMbr()
	w.d[446] = 7
	wants(t, "an entry's mark", w.d, api.ErrForm)
	w = usualMbr()
	lay(w.d, 76, mbr.Entry{}, mbr.Entry{Type: 5, First: 20, Count: 1})
	wants(t, "a loop", w.d, api.ErrLoop)
	w = usualMbr()
	lay(w.d, 77, mbr.Entry{Type: 1, First: 1, Count: 8})
	wants(t, "a cross", w.d, api.ErrCross)
	w = usualMbr()
	lay(w.d, 77, mbr.Entry{Type: 1, First: 1, Count: 80})
	wants(t, "beyond Inner", w.d, api.ErrRange)
}

// Tables of both kinds: without a Guard the MBR's holds, with one the GPT's; with a
// Guard nothing else may stand in the first sector.
func TestBothTables(t *testing.T) {
	w := usualGpt()
	lay(w.d, 0, mbr.Entry{Type: 12, First: 30, Count: 4})
	m, e := parts.Parse(bare(w.d))
	if e != api.OK || m.Kind != parts.Mbr || len(m.Parts) != 1 || !slices.Equal(m.Gaps, extent.Set{{From: 512, To: 30 * 512}, {From: 34 * 512, To: 64 * 512}}) {
		t.Error(m, e)
	}
	eye := mbr.Entry{Type: 0xEE, First: 1, Count: 63}
	other := mbr.Entry{Type: 12, First: 30, Count: 4}
	inner := mbr.Entry{Type: 5, First: 30, Count: 4}
	for i := range 4 {
		for j := range 4 {
			var l [4]mbr.Entry
			l[i] = eye
			lay(w.d, 0, l[:]...)
			w.parsed(t)
			if i == j {
				continue
			}
			l[j] = eye // another one says the same
			lay(w.d, 0, l[:]...)
			w.parsed(t)
			l[j] = other
			lay(w.d, 0, l[:]...)
			wants(t, "a partition", w.d, api.ErrForm)
			l[j] = inner
			lay(w.d, 0, l[:]...)
			lay(w.d, 30)
			wants(t, "an Inner", w.d, api.ErrForm)
			l[j].Type = 15
			lay(w.d, 0, l[:]...)
			wants(t, "a large Inner", w.d, api.ErrForm)
			l[j] = mbr.Entry{Type: 12, First: 60, Count: 5}
			lay(w.d, 0, l[:]...)
			wants(t, "layer 13's error first", w.d, api.ErrRange)
			l[j] = inner
			lay(w.d, 0, l[:]...)
			w.d[30*512+511] = 0
			wants(t, "layer 13's error in the chain first", w.d, api.ErrMagic)
		}
	}
	w = usualGpt()
	lay(w.d, 0, eye, mbr.Entry{Type: 12, First: 30, Count: 4})
	clear(w.d[512:1024])
	wants(t, "a partition beside a Guard, ahead of layer 14's errors", w.d, api.ErrForm)
}

// Layer 14's errors come through.
func TestWrongGpt(t *testing.T) {
	for name, c := range map[string]struct {
		want  api.Errno
		spoil func(d []byte) []byte
	}{
		"no whole sectors":  {api.ErrRange, func(d []byte) []byte { return d[:len(d)-1] }},
		"five sectors":      {api.ErrRange, func(d []byte) []byte { return d[:5*512] }},
		"one sector":        {api.ErrRange, func(d []byte) []byte { return d[:512] }},
		"first header":      {api.ErrMagic, func(d []byte) []byte { d[512] = 0; return d }},
		"first header's":    {api.ErrForm, func(d []byte) []byte { d[512+84] = 0; return d }},
		"first header sum":  {api.ErrSum, func(d []byte) []byte { d[512+60] ^= 1; return d }},
		"second header":     {api.ErrMagic, func(d []byte) []byte { d[63*512] = 0; return d }},
		"second header sum": {api.ErrSum, func(d []byte) []byte { d[63*512+60] ^= 1; return d }},
		"entries":           {api.ErrSum, func(d []byte) []byte { d[3*512+5] ^= 1; return d }},
		"copy of entries":   {api.ErrSum, func(d []byte) []byte { d[59*512+5] ^= 1; return d }},
		"another disk":      {api.ErrMagic, func(d []byte) []byte { return d[:63*512] }},
	} {
		w := usualGpt()
		wants(t, name, c.spoil(w.d), c.want)
	}
	d := make([]byte, 512*64)
	guard(d)
	wants(t, "a Guard alone", d, api.ErrMagic)
}

// Each read of a Parse is refused, once.
func TestRefusedParse(t *testing.T) {
	for _, w := range []*world{usualMbr(), usualGpt()} {
		all := refusing(w.d, 0, api.OK)
		_, e := parts.Parse(all)
		ok(t, e)
		if all.reads < 5 {
			t.Fatal(all.reads)
		}
		for n := range all.reads {
			for _, want := range []api.Errno{api.ErrIO, api.ErrState} {
				if m, e := parts.Parse(refusing(w.d, n+1, want)); e != want || !same(m, parts.Map{}) {
					t.Errorf("read %d: %d; %+v", n+1, e, m)
				}
			}
		}
	}
}

func TestLast(t *testing.T) {
	if p, has := (parts.Map{}).Last(); has || p != (api.Part{}) {
		t.Error(p, has)
	}
	for _, c := range []struct {
		w    *world
		slot int
	}{{usualMbr(), 0}, {usualGpt(), 1}} {
		if p, has := c.w.parsed(t).Last(); !has || p != c.w.slots[c.slot] {
			t.Error(p, has)
		}
	}
	r := rand.New(rand.NewSource(2))
	for range 300 {
		for _, w := range []*world{anyMbr(r), anyGpt(r)} {
			m := w.parsed(t)
			p, has := m.Last()
			if has != (len(m.Parts) > 0) || has && p != w.slots[p.Slot] {
				t.Fatal(p, has)
			}
			for _, q := range w.slots {
				if q.Ext.From > p.Ext.From {
					t.Fatal(p, q)
				}
			}
		}
	}
}

// A Map that is written by hand, of parts that don't rise.
func TestMapByHand(t *testing.T) {
	a, b := api.Part{Ext: api.Ext{From: 512, To: 1024}}, api.Part{Ext: api.Ext{From: 4096, To: 5120}, Slot: 1}
	m := parts.Map{Kind: parts.Mbr, Parts: []api.Part{b, a}, Held: extent.Set{{To: 512}}}
	if p, has := m.Last(); !has || p != b {
		t.Error(p, has)
	}
	if room := m.Room(a, 9000); room != 4096 {
		t.Error(room)
	}
	if room := m.Room(b, 9000); room != 9000 {
		t.Error(room)
	}
	d := bare(make([]byte, 10240))
	for kind := -1; kind < 4; kind++ {
		for slot := -1; slot < 6; slot++ {
			m := parts.Map{Kind: kind, Parts: []api.Part{{Ext: api.Ext{To: 512}, Slot: slot}}}
			l, e := m.Resize(d, m.Parts[0], 512)
			if first := kind == parts.Mbr && slot >= 0 && slot < 4; first && (e != api.OK || len(l) != 1) || !first && (e != api.ErrNone || len(l) > 0) {
				t.Error(kind, slot, l, e)
			}
		}
	}
}

func TestRoom(t *testing.T) {
	w := usualMbr()
	m := w.parsed(t)
	size := int64(len(w.d))
	for slot, end := range map[int]int64{0: size, 3: 64 * 512, 4: 76 * 512, 5: 100 * 512, 7: 84 * 512} {
		if room := m.Room(w.slots[slot], size); room != end {
			t.Errorf("slot %d: %d, not %d", slot, room, end)
		}
	}
	for _, size := range []int64{0, 1, 512 * 50, 512 * 70, 512 * 82, 512 * 117, math.MaxInt64} { // another disk's
		for slot, end := range map[int]int64{0: math.MaxInt64, 3: 64 * 512, 4: 76 * 512, 5: 100 * 512, 7: 84 * 512} {
			if room := m.Room(w.slots[slot], size); room != min(end, size) {
				t.Errorf("slot %d of %d: %d", slot, size, room)
			}
		}
	}
	w = usualGpt()
	m = w.parsed(t)
	for slot, end := range map[int]int64{1: 57 * 512, 2: 9 * 512, 5: 30 * 512} {
		for _, size := range []int64{64 * 512, 0, -1, math.MaxInt64} { // it counts not
			if room := m.Room(w.slots[slot], size); room != end {
				t.Errorf("slot %d: %d, not %d", slot, room, end)
			}
		}
	}
	r := rand.New(rand.NewSource(3))
	for range 1500 {
		for _, w := range []*world{anyMbr(r), anyGpt(r)} {
			m := w.parsed(t)
			for slot, p := range w.slots {
				if got, want := m.Room(p, int64(len(w.d))), w.room(slot, int64(len(w.d))); got != want {
					t.Fatalf("slot %d: %d, not %d; %+v", slot, got, want, m)
				}
			}
		}
	}
}

// A partition that the map hasn't got: what begins at its end, or behind it, counts.
func TestRoomOfAnother(t *testing.T) {
	w := usualMbr()
	m := w.parsed(t)
	for _, c := range []struct {
		slot     int
		to, room int64
	}{
		{0, 0, 0}, {0, 1, 8 * 512}, {1, 8 * 512, 8 * 512}, {2, 8*512 + 1, 64 * 512}, {3, 64 * 512, 64 * 512},
		{3, 64*512 + 1, 65 * 512}, {4, 64 * 512, 64 * 512}, {-1, 50 * 512, 64 * 512}, {9, 101 * 512, 100 * 512},
		{2, 100 * 512, 104 * 512}, {2, 119 * 512, int64(len(w.d))}, {2, math.MaxInt64, int64(len(w.d))}, {2, math.MinInt64, 0},
	} {
		if room := m.Room(api.Part{Ext: api.Ext{To: c.to}, Slot: c.slot}, int64(len(w.d))); room != c.room {
			t.Errorf("%+v: %d", c, room)
		}
	}
	lay(w.d, 0, mbr.Entry{Type: 5, First: 1, Count: 4}) // Inner right behind the first sector
	lay(w.d, 1)
	m, e := parts.Parse(bare(w.d))
	ok(t, e)
	for slot := range 4 {
		if room := m.Room(api.Part{Ext: api.Ext{To: 512}, Slot: slot}, 60*512); room != 512 {
			t.Error(slot, room)
		}
	}
	lay(w.d, 0, mbr.Entry{Type: 7, First: 10, Count: 4})
	m, e = parts.Parse(bare(w.d))
	ok(t, e)
	if room := m.Room(api.Part{Ext: api.Ext{To: 30 * 512}, Slot: 4}, 60*512); room != 60*512 { // there is no Inner
		t.Error(room)
	}
}
