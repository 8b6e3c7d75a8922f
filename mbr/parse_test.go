package mbr_test

import (
	"math"
	"math/rand"
	"slices"
	"testing"

	"fettle/api"
	"fettle/mbr"
)

func TestTypes(t *testing.T) {
	if mbr.Empty != 0 || mbr.Extended != 5 || mbr.Large != 15 || mbr.Guard != 238 {
		t.Error("other types")
	}
}

func TestExample(t *testing.T) {
	d := make([]byte, 100*512)
	first, e := mbr.Make(mbr.Entry{Type: 12, First: 8, Count: 40}, mbr.Entry{Type: 5, First: 64, Count: 32})
	ok(t, e)
	inner, e := mbr.Make(mbr.Entry{Type: 11, First: 1, Count: 10})
	ok(t, e)
	copy(d, first)
	copy(d[64*512:], inner)
	x, e := mbr.Parse(mem(d))
	ok(t, e)
	want := mbr.Table{
		Parts: []api.Part{{Ext: api.Ext{From: 8 * 512, To: 48 * 512}, Type: 12, Slot: 0}, {Ext: api.Ext{From: 65 * 512, To: 75 * 512}, Type: 11, Slot: 4}},
		Held:  []api.Ext{{From: 0, To: 512}, {From: 64 * 512, To: 65 * 512}},
		Inner: api.Ext{From: 64 * 512, To: 96 * 512},
	}
	if !same(x, want) {
		t.Errorf("%+v", x)
	}
}

// whole is a disk of 200 sectors with all that may be: three partitions, Inner, and a
// chain of four sectors, that goes back and forth, one of them without a partition.
func whole() []byte {
	d := noise(200)
	lay(d, 0, mbr.Entry{Type: 12, First: 8, Count: 40}, mbr.Entry{Type: 5, First: 64, Count: 100}, mbr.Entry{Type: 0x83, First: 1, Count: 7}, mbr.Entry{Type: 7, First: 164, Count: 36})
	lay(d, 64, mbr.Entry{Type: 11, First: 1, Count: 10}, mbr.Entry{Type: 5, First: 99, Count: 1})
	lay(d, 163, mbr.Entry{}, mbr.Entry{Type: 15, First: 40, Count: 15})
	lay(d, 104, mbr.Entry{Type: 0xEE, First: 2, Count: 30}, mbr.Entry{Type: 5, First: 20, Count: math.MaxUint32})
	lay(d, 84, mbr.Entry{Type: 1, First: 1, Count: 19})
	d[446] = 0x80
	return d
}

func part(first, count int64, kind, slot int) api.Part {
	return api.Part{Ext: api.Ext{From: 512 * first, To: 512 * (first + count)}, Type: kind, Slot: slot}
}

func TestWhole(t *testing.T) {
	x, e := looked(t, "whole", whole())
	ok(t, e)
	want := mbr.Table{
		Parts: []api.Part{part(8, 40, 12, 0), part(1, 7, 0x83, 2), part(164, 36, 7, 3), part(65, 10, 11, 4), part(106, 30, 0xEE, 6), part(85, 19, 1, 7)},
		Inner: api.Ext{From: 64 * 512, To: 164 * 512},
	}
	for _, n := range []int64{0, 64, 163, 104, 84} {
		want.Held = append(want.Held, api.Ext{From: 512 * n, To: 512*n + 512})
	}
	if !same(x, want) {
		t.Errorf("%+v", x)
	}
}

func TestSector(t *testing.T) {
	x, e := looked(t, "whole", whole())
	ok(t, e)
	for slot, want := range map[int][2]int64{0: {0, 0}, 1: {0, 1}, 2: {0, 2}, 3: {0, 3}, 4: {64, 0}, 5: {163, 0}, 6: {104, 0}, 7: {84, 0}} {
		if sector, i, e := x.Sector(slot); e != api.OK || sector != want[0] || int64(i) != want[1] {
			t.Error(slot, sector, i, e)
		}
	}
	for _, slot := range []int{math.MinInt, -5, -4, -1, 8, 9, 36, math.MaxInt} {
		if sector, i, e := x.Sector(slot); e != api.ErrNone || sector != 0 || i != 0 {
			t.Error(slot, sector, i, e)
		}
	}
	for slot := -3; slot < 9; slot++ { // of no table at all there are the first sector's slots alone
		want := api.ErrNone
		if slot >= 0 && slot < 4 {
			want = api.OK
		}
		if _, _, e := (mbr.Table{}).Sector(slot); e != want {
			t.Error(slot, e)
		}
	}
}

// What Sector says of a partition is where its entry stands: what is put there is
// parsed, and nothing else is another one.
func TestSectorsEntryIsTheOne(t *testing.T) {
	x, _ := looked(t, "whole", whole())
	for i, p := range x.Parts {
		d := whole()
		sector, entry, e := x.Sector(p.Slot)
		ok(t, e)
		b := d[512*sector : 512*sector+512]
		l, e := mbr.Entries(b)
		ok(t, e)
		l[entry].Count--
		ok(t, mbr.Put(b, entry, l[entry]))
		y, e := looked(t, "one less", d)
		ok(t, e)
		x.Parts[i].Ext.To -= 512
		if !same(y, x) {
			t.Errorf("slot %d: %+v", p.Slot, y)
		}
		x.Parts[i].Ext.To += 512
	}
}

func TestGuard(t *testing.T) {
	for slot := range 4 {
		d := noise(10)
		l := make([]mbr.Entry, 4)
		l[slot] = mbr.Entry{Type: mbr.Guard, First: math.MaxUint32, Count: math.MaxUint32} // its place says nothing
		lay(d, 0, l...)
		x, e := looked(t, "guard", d)
		if e != api.OK || !x.Guard || len(x.Parts) != 0 {
			t.Error(slot, x, e)
		}
		l[(slot+1)%4] = mbr.Entry{Type: 6, First: 1, Count: 9}
		l[(slot+2)%4] = mbr.Entry{Type: mbr.Guard, Count: 1}
		lay(d, 0, l...)
		x, e = looked(t, "guard and more", d)
		if e != api.OK || !x.Guard || len(x.Parts) != 1 {
			t.Error(slot, x, e)
		}
	}
}

func TestNoDisk(t *testing.T) {
	if x, e := mbr.Parse(nil); e != api.ErrNil || !same(x, mbr.Table{}) {
		t.Error(x, e)
	}
	for _, n := range []int{0, 1, 446, 511} {
		wants(t, "short", make([]byte, n), api.ErrRange)
	}
	wants(t, "no sign", make([]byte, 512), api.ErrMagic)
	d := make([]byte, 512)
	lay(d, 0)
	wants(t, "no entry", d, api.OK)
}

// The edges of what a disk has: by bytes, as its end needn't be a sector's.
func TestPlacesOfTheFirstSector(t *testing.T) {
	for _, kind := range []int{1, 5, 15, 0x83, 255} {
		for slot := range 4 {
			for _, c := range []struct {
				first, count int64
				bytes        int
				want         api.Errno
			}{
				{0, 1, 5120, api.ErrRange}, {0, 10, 5120, api.ErrRange}, {1, 9, 5120, api.OK}, {1, 10, 5120, api.ErrRange},
				{9, 1, 5120, api.OK}, {9, 2, 5120, api.ErrRange}, {10, 1, 5120, api.ErrRange}, {11, 1, 5120, api.ErrRange},
				{1, 10, 5631, api.ErrRange}, {1, 10, 5632, api.OK}, {9, 1, 5119, api.ErrRange}, {1, 8, 5119, api.OK},
				{math.MaxUint32, math.MaxUint32, 5120, api.ErrRange}, {1, math.MaxUint32, 5120, api.ErrRange}, {math.MaxUint32, 1, 5120, api.ErrRange},
			} {
				d := make([]byte, c.bytes)
				for n := range c.bytes / 512 {
					lay(d, n)
				}
				l := make([]mbr.Entry, 4)
				l[slot] = mbr.Entry{Type: kind, First: c.first, Count: c.count}
				lay(d, 0, l...)
				wants(t, "place", d, c.want)
			}
		}
	}
}

func TestInnerTwice(t *testing.T) {
	for a := range 4 {
		for b := range a {
			for _, kinds := range [][2]int{{5, 5}, {5, 15}, {15, 5}, {15, 15}} {
				d := noise(30)
				l := make([]mbr.Entry, 4)
				l[b] = mbr.Entry{Type: kinds[0], First: 10, Count: 10}
				l[a] = mbr.Entry{Type: kinds[1], First: 20, Count: 10}
				lay(d, 0, l...)
				wants(t, "two", d, api.ErrTwice)
				l[a].First = 0
				lay(d, 0, l...)
				wants(t, "two, the second not in the disk", d, api.ErrTwice)
				l[b].First = 0
				lay(d, 0, l...)
				wants(t, "two, the first not in the disk", d, api.ErrRange)
			}
		}
	}
}

// fault is what spoils the whole disk, and its error.
type fault struct {
	name  string
	want  api.Errno
	spoil func(d []byte)
}

// set: the bytes of an entry from a place on are these.
func set(sector, entry, at int, v ...byte) func([]byte) {
	return func(d []byte) { copy(d[512*sector+446+16*entry+at:], v) }
}

// faults: in the order in which they are told.
func faults() []fault {
	var l []fault
	add := func(name string, want api.Errno, spoil func([]byte)) { l = append(l, fault{name, want, spoil}) }
	form := func(sector int) {
		add("sign", api.ErrMagic, set(sector, 4, 1, 0xAB))
		for i := range 4 {
			add("mark", api.ErrForm, set(sector, i, 0, 0x40))
			add("an Empty that has sectors", api.ErrForm, set(sector, i, 4, 0, 0, 0, 0, 9, 9, 9, 9, 9))
		}
	}
	form(0)
	add("slot 0 at sector 0", api.ErrRange, set(0, 0, 8, 0))
	add("Inner beyond the disk", api.ErrRange, set(0, 1, 12, 137))
	add("Inner twice", api.ErrTwice, set(0, 2, 4, 15))
	add("slot 2 beyond the disk", api.ErrRange, set(0, 2, 11, 1))
	add("slot 3 beyond the disk", api.ErrRange, set(0, 3, 12, 38))
	for i, sector := range []int{64, 163, 104, 84} {
		form(sector)
		add("a third", api.ErrForm, set(sector, 2, 4, 1, 0, 0, 0, 1, 0, 0, 0, 1, 0, 0, 0))
		add("a fourth", api.ErrForm, set(sector, 3, 4, 5, 0, 0, 0, 1, 0, 0, 0, 1, 0, 0, 0))
		add("the first is Extended", api.ErrForm, set(sector, 0, 4, 5, 0, 0, 0, 1, 0, 0, 0, 1, 0, 0, 0))
		add("the first is Large", api.ErrForm, set(sector, 0, 4, 15, 0, 0, 0, 1, 0, 0, 0, 1, 0, 0, 0))
		add("the first beyond Inner", api.ErrRange, set(sector, 0, 4, 1, 0, 0, 0, 0, 0, 0, 0, 101, 0, 0, 0))
		add("the second is another", api.ErrForm, set(sector, 1, 4, 6, 0, 0, 0, 1, 0, 0, 0, 1, 0, 0, 0))
		add("back to itself", api.ErrLoop, set(sector, 1, 4, 5, 0, 0, 0, byte(sector-64), 0, 0, 0, 1, 0, 0, 0))
		add("back to the first", api.ErrLoop, set(sector, 1, 4, 5, 0, 0, 0, 0, 0, 0, 0, 1, 0, 0, 0))
		if i > 1 {
			add("back to the second", api.ErrLoop, set(sector, 1, 4, 5, 0, 0, 0, 99, 0, 0, 0, 1, 0, 0, 0))
		}
		add("behind Inner", api.ErrRange, set(sector, 1, 4, 15, 0, 0, 0, 100, 0, 0, 0, 1, 0, 0, 0))
		add("far behind Inner", api.ErrRange, set(sector, 1, 4, 15, 0, 0, 0, 255, 255, 255, 255, 1, 0, 0, 0))
	}
	add("slot 0 in slot 2", api.ErrCross, set(0, 0, 8, 7, 0, 0, 0, 41, 0, 0, 0))
	add("slot 2 in Inner", api.ErrCross, set(0, 2, 8, 60, 0, 0, 0, 5, 0, 0, 0))
	add("slot 3 in Inner", api.ErrCross, set(0, 3, 8, 163, 0, 0, 0, 1, 0, 0, 0))
	add("a partition on its own sector", api.ErrCross, set(64, 0, 8, 0))
	add("a partition on another one's sector", api.ErrCross, set(64, 0, 8, 1, 0, 0, 0, 20))
	add("a partition in another one", api.ErrCross, set(64, 0, 8, 21, 0, 0, 0, 19))
	return l
}

func TestEachFault(t *testing.T) {
	for _, f := range faults() {
		d := whole()
		f.spoil(d)
		wants(t, f.name, d, f.want)
	}
}

// Of two faults the one that comes first is told. The other is laid first, as both
// may be in the same bytes.
func TestEachTwoFaults(t *testing.T) {
	l := faults()
	for i, f := range l {
		for _, g := range l[i+1:] {
			d := whole()
			g.spoil(d)
			f.spoil(d)
			wants(t, f.name+", "+g.name, d, f.want)
		}
	}
}

// Chains that are right, but for their length: each sector in front of its
// partition, or without one.
func chained(first, links, filled int) []byte {
	d := noise(200)
	l := []mbr.Entry{{Type: 15, First: 10, Count: 190}}
	for i := range first {
		l = append(l, mbr.Entry{Type: 4, First: int64(i) + 1, Count: 1})
	}
	lay(d, 0, l...)
	for i := range links {
		var x, next mbr.Entry
		if i < filled {
			x = mbr.Entry{Type: 6, First: 1, Count: 1}
		}
		if i < links-1 {
			next = mbr.Entry{Type: 5, First: 2 * int64(i+1), Count: 2}
		}
		lay(d, 10+2*i, x, next)
	}
	return d
}

func TestHowManyPartitions(t *testing.T) {
	for first := range 4 {
		for links := 28; links <= 33; links++ {
			want := api.OK
			if first+links > 32 {
				want = api.ErrBig
			}
			wants(t, "partitions", chained(first, links, links), want)
		}
	}
	d := chained(0, 33, 33)
	set(10+2*32, 0, 12, 255)(d)
	wants(t, "one more, that isn't in Inner", d, api.ErrRange)
	d = chained(0, 33, 33)
	set(10+2*32, 1, 4, 6, 0, 0, 0, 1, 0, 0, 0, 1)(d)
	wants(t, "one more, and the next is none", d, api.ErrBig)
	d = chained(0, 33, 33)
	set(10+2*32, 0, 8, 0)(d)
	wants(t, "one more, that crosses", d, api.ErrBig)
}

func TestHowLongAChain(t *testing.T) {
	for links := 1; links < 50; links++ {
		for _, filled := range []int{0, 1, 20} {
			want := api.OK
			if links > 33 {
				want = api.ErrBig
			}
			x, e := looked(t, "chain", chained(2, links, filled))
			if e != want || e == api.OK && len(x.Held) != links+1 {
				t.Errorf("%d links: %d", links, e)
			}
		}
	}
	x, e := looked(t, "the longest", chained(0, 33, 0))
	ok(t, e)
	if sector, i, e := x.Sector(36); e != api.OK || sector != 74 || i != 0 {
		t.Error(sector, i, e)
	}
	if _, _, e := x.Sector(37); e != api.ErrNone {
		t.Error(e)
	}
	for _, back := range []byte{0, 2, 64} { // all that may be were read: the next isn't looked at
		d := chained(0, 33, 0)
		set(74, 1, 4, 5, 0, 0, 0, back, 0, 0, 0, 1)(d)
		wants(t, "one more, that was there", d, api.ErrBig)
	}
	for links := 2; links < 33; links++ {
		d := chained(0, links, links)
		set(10+2*(links-1), 1, 4, 5, 0, 0, 0, byte(links-2)&^1, 0, 0, 0, 1)(d)
		wants(t, "back", d, api.ErrLoop)
	}
}

func TestPartitionsInInner(t *testing.T) {
	for first := int64(0); first < 22; first++ {
		for count := int64(1); count < 24; count++ {
			d := noise(40)
			lay(d, 0, mbr.Entry{Type: 5, First: 10, Count: 20})
			lay(d, 10, mbr.Entry{}, mbr.Entry{Type: 5, First: 6, Count: 1})
			lay(d, 16, mbr.Entry{Type: 1, First: first, Count: count})
			want := api.OK
			switch {
			case 16+first+count > 30:
				want = api.ErrRange
			case first == 0:
				want = api.ErrCross
			}
			wants(t, "within", d, want)
		}
	}
}

// What a partition of the first sector has in common with Inner is told even if
// nothing stands there.
func TestOutside(t *testing.T) {
	for first := int64(1); first < 30; first++ {
		for count := int64(1); count <= 30-first; count++ {
			d := noise(30)
			lay(d, 0, mbr.Entry{Type: 1, First: first, Count: count}, mbr.Entry{Type: 15, First: 10, Count: 10}, mbr.Entry{Type: 1, First: 22, Count: 3})
			lay(d, 10)
			want := api.OK
			if first < 20 && first+count > 10 || first < 25 && first+count > 22 {
				want = api.ErrCross
			}
			wants(t, "outside", d, want)
		}
	}
}

func TestEveryByteOfTheWhole(t *testing.T) {
	d := whole()
	met := map[api.Errno]int{}
	for _, sector := range []int{0, 64, 163, 104, 84} {
		for at := 512*sector + 440; at < 512*sector+512; at++ {
			was := d[at]
			for _, v := range []byte{0, 1, 4, 5, 6, 15, 40, 64, 84, 99, 104, 127, 128, 129, 0xEE, 255, was ^ 1, was + 1, was - 1} {
				d[at] = v
				_, e := looked(t, "a byte", d)
				met[e]++
			}
			d[at] = was
		}
	}
	for _, e := range []api.Errno{api.OK, api.ErrMagic, api.ErrForm, api.ErrTwice, api.ErrRange, api.ErrLoop, api.ErrCross} {
		if met[e] == 0 {
			t.Error("never met:", e)
		}
	}
}

// Any small numbers, on a small disk: all errors come, alone and together.
func TestAnyEntries(t *testing.T) {
	r := rand.New(rand.NewSource(13))
	met := map[api.Errno]int{}
	types := []int{0, 0, 0, 5, 15, 1, 6, 0xEE}
	for range 120000 {
		sectors := 3 + r.Intn(20)
		d := make([]byte, 512*sectors+r.Intn(2)*r.Intn(512))
		for n := range sectors {
			l := make([]mbr.Entry, 4)
			for i := range l {
				if n > 0 && i > 1 && r.Intn(30) > 0 {
					continue
				}
				x := mbr.Entry{Type: types[r.Intn(len(types))], First: int64(r.Intn(sectors)), Count: int64(1 + r.Intn(sectors-1))}
				if n == 0 && r.Intn(8) > 0 { // most of what the first sector says is in the disk
					x.First = int64(1 + r.Intn(sectors-1))
					x.Count = 1 + r.Int63n(int64(sectors)-x.First)
				}
				if n > 0 && i == 0 && r.Intn(6) > 0 {
					x.Type, x.First, x.Count = types[r.Intn(2)*5], 1, 1
				}
				if n > 0 && i == 1 && r.Intn(4) > 0 {
					x.Type = types[2+r.Intn(3)]
				}
				if x.Type == 0 {
					x.Count = 0
				}
				l[i] = x
			}
			lay(d, n, l...)
			if r.Intn(60) == 0 {
				d[512*n+446+r.Intn(66)] = byte(r.Intn(256))
			}
		}
		_, e := looked(t, "any", d)
		met[e]++
	}
	for _, e := range []api.Errno{api.OK, api.ErrMagic, api.ErrForm, api.ErrTwice, api.ErrRange, api.ErrLoop, api.ErrCross} {
		if met[e] < 50 {
			t.Errorf("error %d was met %d times: %v", e, met[e], met)
		}
	}
}

func TestAnyBytes(t *testing.T) {
	for seed := range 3000 {
		d := pattern(512*(1+seed%5), int64(seed))
		looked(t, "any bytes", d)
		d[510], d[511] = 0x55, 0xAA
		for i := range 4 {
			d[446+16*i] &= 0x80
			if seed%2 == 0 {
				d[446+16*i+4] &= 0x0F
			}
		}
		looked(t, "any bytes with a sign", d)
	}
}

// What is made is parsed: partitions and chains without a fault, at random.
func TestMadeIsParsed(t *testing.T) {
	r := rand.New(rand.NewSource(17))
	kind := func() int {
		for {
			if k := 1 + r.Intn(255); k != 5 && k != 15 && k != 0xEE {
				return k
			}
		}
	}
	for range 3000 {
		d := noise(120)
		var want mbr.Table
		at := int64(1 + r.Intn(4))
		l := make([]mbr.Entry, 4)
		chain := r.Intn(6)
		for slot := range l {
			switch {
			case slot == chain:
				l[slot] = mbr.Entry{Type: []int{5, 15}[r.Intn(2)], First: at, Count: 60}
				want.Inner = api.Ext{From: 512 * at, To: 512 * (at + 60)}
				at += 60
			case r.Intn(3) > 0:
				count := int64(1 + r.Intn(12))
				l[slot] = mbr.Entry{Type: kind(), First: at, Count: count}
				want.Parts = append(want.Parts, part(at, count, l[slot].Type, slot))
				at += count
			}
			at += int64(r.Intn(4))
		}
		made(t, d, 0, l...)
		want.Held = []api.Ext{{From: 0, To: 512}}
		if want.Inner.To > 0 {
			layChain(t, r, d, &want, kind)
		}
		x, e := looked(t, "made", d)
		if e != api.OK || !same(x, want) {
			t.Fatalf("%d: %+v, not %+v", e, x, want)
		}
	}
}

// made: what Make answers stands in a sector.
func made(t *testing.T, d []byte, sector int64, l ...mbr.Entry) {
	t.Helper()
	b, e := mbr.Make(l...)
	ok(t, e)
	copy(d[512*sector:], b)
}

// layChain: a chain within Inner, up to ten sectors in any order, each with up to five behind it.
func layChain(t *testing.T, r *rand.Rand, d []byte, want *mbr.Table, kind func() int) {
	begin := want.Inner.From / 512
	places := []int64{0}
	for _, p := range r.Perm(9)[:r.Intn(10)] {
		places = append(places, 6*int64(p+1))
	}
	for i, p := range places {
		var x, next mbr.Entry
		if r.Intn(4) > 0 {
			first := int64(1 + r.Intn(5))
			x = mbr.Entry{Type: kind(), First: first, Count: 1 + r.Int63n(6-first)}
			want.Parts = append(want.Parts, part(begin+p+first, x.Count, x.Type, 4+i))
		}
		if i < len(places)-1 {
			next = mbr.Entry{Type: []int{5, 15}[r.Intn(2)], First: places[i+1], Count: 1 + r.Int63n(1<<32-1)}
		}
		made(t, d, begin+p, x, next)
		want.Held = append(want.Held, api.Ext{From: 512 * (begin + p), To: 512*(begin+p) + 512})
	}
}

// A disk's error ends the call; each sector is read once, in the chain's order,
// and none behind an error.
func TestRefused(t *testing.T) {
	order := []int64{0, 64, 163, 104, 84}
	for _, e := range []api.Errno{api.ErrIO, api.ErrState, api.ErrNil} {
		for refused := 1; refused <= len(order)+1; refused++ {
			var asked []int64
			d := &odd{mem: whole(), answer: func(read int, at, n int64) ([]byte, api.Errno, bool) {
				asked = append(asked, at/512)
				return nil, e, read == refused
			}}
			want := e
			if refused > len(order) {
				want = api.OK
			}
			x, got := mbr.Parse(d)
			if got != want || got != api.OK && !same(x, mbr.Table{}) {
				t.Errorf("read %d refused: %d; %+v", refused, got, x)
			}
			if !slices.Equal(asked, order[:min(refused, len(order))]) {
				t.Error("asked for", asked)
			}
		}
	}
}

// A disk that answers other bytes than it was asked for, or tells a wrong size.
func TestOddDisks(t *testing.T) {
	for _, n := range []int{0, 1, 511, 513, 1024} {
		for wrong := 1; wrong <= 5; wrong++ {
			d := &odd{mem: whole(), answer: func(read int, at, _ int64) ([]byte, api.Errno, bool) {
				return bytesFrom(whole()[at:], n), api.OK, read == wrong
			}}
			if x, e := mbr.Parse(d); e != api.ErrRange || !same(x, mbr.Table{}) {
				t.Error(n, wrong, x, e)
			}
		}
	}
	for _, size := range []int64{math.MinInt64, -1, 0, 511, 512} {
		if x, e := mbr.Parse(sized{mem(whole()), size}); e != api.ErrRange || !same(x, mbr.Table{}) {
			t.Error(size, x, e)
		}
	}
	if _, e := mbr.Parse(sized{mem(whole()), math.MaxInt64}); e != api.OK {
		t.Error(e)
	}
}

func bytesFrom(b []byte, n int) []byte {
	out := make([]byte, n)
	copy(out, b)
	return out
}

// A disk may be as great as it likes: numbers don't wrap round.
func TestGreatDisk(t *testing.T) {
	first := make([]byte, 512)
	lay(first, 0, mbr.Entry{Type: 1, First: 1, Count: 9}, mbr.Entry{Type: 5, First: math.MaxUint32, Count: math.MaxUint32}, mbr.Entry{Type: 7, First: 10, Count: math.MaxUint32 - 10})
	link := make([]byte, 512)
	lay(link, 0, mbr.Entry{Type: 11, First: 1, Count: math.MaxUint32 - 1})
	d := &odd{answer: func(read int, at, n int64) ([]byte, api.Errno, bool) {
		if at == 0 {
			return first, api.OK, true
		}
		return link, api.OK, true
	}}
	x, e := mbr.Parse(sized{d, math.MaxInt64})
	ok(t, e)
	const m = math.MaxUint32
	want := mbr.Table{
		Parts: []api.Part{part(1, 9, 1, 0), part(10, m-10, 7, 2), part(m+1, m-1, 11, 4)},
		Held:  []api.Ext{{From: 0, To: 512}, {From: 512 * m, To: 512 * (m + 1)}},
		Inner: api.Ext{From: 512 * m, To: 1024 * m},
	}
	if !same(x, want) {
		t.Errorf("%+v", x)
	}
}

func TestAnswersAreNew(t *testing.T) {
	d := whole()
	x, e := mbr.Parse(bare(d))
	ok(t, e)
	y, e := mbr.Parse(bare(d))
	ok(t, e)
	x.Parts[0].Slot, x.Held[0].To = 99, 1
	clear(d)
	if z, _ := byWords(whole()); !same(y, z) {
		t.Error("an answer shares its memory")
	}
}
