package mbr

import (
	"slices"

	"fettle/api"
	"fettle/extent"
)

// chainSlot is the slot of the chain's first sector, lastSlot the greatest that
// one of its sectors may have.
const (
	chainSlot = entryCount
	lastSlot  = chainSlot + api.MaxParts
)

// Which of a sector's entries the chain has: its partition, and the next sector.
const (
	partEntry = iota
	nextEntry
	chainEntries
)

// reading is a table on its way: what is known of a disk so far.
type reading struct {
	Table
	disk api.Disk
}

// Parse: what a disk's entries say.
func Parse(d api.Disk) (Table, api.Errno) {
	if d == nil {
		return Table{}, api.ErrNil
	}
	r := &reading{disk: d}
	if e := r.first(); e != api.OK {
		return Table{}, e
	}
	if e := r.chain(); e != api.OK {
		return Table{}, e
	}
	if !r.apart() {
		return Table{}, api.ErrCross
	}
	return r.Table, api.OK
}

// span: so many sectors from one on, as bytes.
func span(first, count int64) api.Ext {
	return api.Ext{From: first * api.Sector, To: (first + count) * api.Sector}
}

// inside: does one lie in the other whole?
func inside(x, in api.Ext) bool {
	return x.From >= in.From && x.To <= in.To
}

// room: where the first sector's partitions, and Inner, may stand.
func (r *reading) room() api.Ext {
	return api.Ext{From: api.Sector, To: r.disk.Size()}
}

// entries: those of a sector of the disk, which is held by them.
func (r *reading) entries(sector int64) ([]Entry, api.Errno) {
	at := span(sector, 1)
	b, e := r.disk.Read(at.From, api.Sector)
	if e != api.OK {
		return nil, e
	}
	l, e := Entries(b)
	if e != api.OK {
		return nil, e
	}
	r.Held = append(r.Held, at)
	return l, api.OK
}

// first: the entries of the first sector.
func (r *reading) first() api.Errno {
	l, e := r.entries(0)
	if e != api.OK {
		return e
	}
	for slot, x := range l {
		if e := r.take(slot, x); e != api.OK {
			return e
		}
	}
	return api.OK
}

// take: an entry of the first sector.
func (r *reading) take(slot int, x Entry) api.Errno {
	switch {
	case x.Type == Empty:
		return api.OK
	case x.Type == Guard:
		r.Guard = true
		return api.OK
	case x.leads():
		return r.lead(x)
	}
	return r.add(slot, x, 0, r.room())
}

// lead: an entry of the first sector is the one for partitions within.
func (r *reading) lead(x Entry) api.Errno {
	if r.inner() {
		return api.ErrTwice
	}
	at := span(x.First, x.Count)
	if !inside(at, r.room()) {
		return api.ErrRange
	}
	r.Inner = at
	return api.OK
}

// inner: is there a part for partitions within? One that is there has a byte.
func (r *reading) inner() bool {
	return r.Inner != api.Ext{}
}

// add: an entry is a partition, its first sector counted from a sector; it must
// lie in a part of the disk.
func (r *reading) add(slot int, x Entry, from int64, in api.Ext) api.Errno {
	at := span(from+x.First, x.Count)
	if !inside(at, in) {
		return api.ErrRange
	}
	if len(r.Parts) == api.MaxParts {
		return api.ErrBig
	}
	r.Parts = append(r.Parts, api.Part{Ext: at, Type: x.Type, Slot: slot})
	return api.OK
}

// chain: the sectors with entries within Inner, one behind the other.
func (r *reading) chain() api.Errno {
	if !r.inner() {
		return api.OK
	}
	begin := r.Inner.From / api.Sector
	seen := map[int64]struct{}{}
	sector := begin
	for slot := chainSlot; slot <= lastSlot; slot++ {
		if _, was := seen[sector]; was {
			return api.ErrLoop
		}
		seen[sector] = struct{}{}
		next, e := r.link(slot, sector)
		if e != api.OK || next.Type == Empty {
			return e
		}
		sector = begin + next.First
	}
	return api.ErrBig
}

// link: the entries of one of the chain's sectors; next: that which tells of the
// sector behind it, Empty if there is none.
func (r *reading) link(slot int, sector int64) (next Entry, e api.Errno) {
	if !inside(span(sector, 1), r.Inner) {
		return Entry{}, api.ErrRange
	}
	l, e := r.entries(sector)
	if e != api.OK {
		return Entry{}, e
	}
	more := slices.ContainsFunc(l[chainEntries:], func(x Entry) bool { return x.Type != Empty })
	if more || l[partEntry].leads() {
		return Entry{}, api.ErrForm
	}
	if l[partEntry].Type != Empty {
		if e := r.add(slot, l[partEntry], sector, r.Inner); e != api.OK {
			return Entry{}, e
		}
	}
	next = l[nextEntry]
	if next.Type != Empty && !next.leads() {
		return Entry{}, api.ErrForm
	}
	return next, api.OK
}

// apart: has no byte two owners? Inner is held against the first sector's
// partitions alone, as those of the chain stand in it.
func (r *reading) apart() bool {
	outer := []api.Ext{r.Inner}
	all := slices.Clone(r.Held)
	for _, p := range r.Parts {
		all = append(all, p.Ext)
		if p.Slot < chainSlot {
			outer = append(outer, p.Ext)
		}
	}
	return extent.Apart(outer...) && extent.Apart(all...)
}
